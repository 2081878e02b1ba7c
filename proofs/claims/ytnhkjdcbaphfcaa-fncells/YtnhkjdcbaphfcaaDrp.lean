/- DropCell: both sides. -/
import Derived.Test.YtnhkjdcbaphfcaaWk
import Derived.Test.YtnhkjdcbaphfcaaFnd
namespace Go.Proofs.Ytnhkjdcbaphfcaa
open Go.RowKit Go.Deep
set_option linter.unusedVariables false
set_option maxRecDepth 20000

/-- An answer that is a page (or a code): the code, the page's Id and Lsn, its cells, in new memory. -/
def PResL (c i l : Int) (L : List (Int × Int)) (w : World) (e : Ending) (w' : World) : Prop :=
  ∃ a cap, e = .returned (.agg #[.int .i64 c, .int .i64 (if c = 0 then i else 0), .int .i64 (if c = 0 then l else 0), .slice a (if c = 0 then L else []).length cap]) ∧ Below w.heap.size w w' ∧
    Own w' w.heap.size w'.heap.size a (if c = 0 then L else []).length (kOf (if c = 0 then L else [])) (vOf (if c = 0 then L else []))
def dC (idn lsn : Int) (n : Nat) (K V : Nat → Int) (key l2 : Int) : Int :=
  if pf idn lsn n K V = 0 then (if inB key 0 31 = false ∨ inB l2 0 1000000 = false then 3 else if has K key n = true then 0 else 4) else pf idn lsn n K V
theorem after_call {w wq : World} {B C : Nat} {x0 x1 y0 y1 y2 y3 : Value} (k0 : w.cell? ⟨B, 0, none⟩ = some x0) (k1 : w.cell? ⟨B, 2, none⟩ = some x1) (r0 : w.cell? ⟨C, 0, none⟩ = some y0) (r1 : w.cell? ⟨C, 1, none⟩ = some y1) (r2 : w.cell? ⟨C, 2, none⟩ = some y2) (r3 : w.cell? ⟨C, 3, none⟩ = some y3)
    (f0 : ∀ i, w.frozen? ⟨C, i, none⟩ = false) (hz : C < w.heap.size) (hb : Below w.drew.heap.size w.drew wq) :
    wq.cell? ⟨B, 0, none⟩ = some x0 ∧ wq.cell? ⟨B, 2, none⟩ = some x1 ∧ wq.cell? ⟨C, 0, none⟩ = some y0 ∧ wq.cell? ⟨C, 1, none⟩ = some y1 ∧ wq.cell? ⟨C, 2, none⟩ = some y2 ∧ wq.cell? ⟨C, 3, none⟩ = some y3 ∧ (∀ i, wq.frozen? ⟨C, i, none⟩ = false) :=
  ⟨cell_below (w := w.drew) k0 hb, cell_below (w := w.drew) k1 hb, cell_below (w := w.drew) r0 hb, cell_below (w := w.drew) r1 hb, cell_below (w := w.drew) r2 hb, cell_below (w := w.drew) r3 hb, fun i => (hb.frozen (p := ⟨C, i, none⟩) hz).trans (f0 i)⟩
theorem Writes.drew {lo hi : Nat} {w w' : World} (h : Writes lo hi w w') : Writes lo hi w w'.drew := ⟨h.os, h.tape, h.output, h.size, h.block⟩
theorem dres_ok {x i l : Int} {L : List (Int × Int)} {w w1 wq w' : World} {a : Option Addr} {cap : Nat} (E : Hid (x = 0)) (hB : Hid (Below w.heap.size w w1)) (hbq : Below w1.drew.heap.size w1.drew wq) (hz : w.heap.size + 1 < w1.heap.size)
    (ho : Own wq w1.drew.heap.size wq.heap.size a L.length (kOf L) (vOf L)) (hw : Writes (w.heap.size + 1) (w.heap.size + 2) wq w') (hs : w'.heap.size = wq.heap.size) :
    PResL x i l L w (.returned (.agg #[.int .i64 0, .int .i64 i, .int .i64 l, .slice a L.length cap])) w' := by
  rw [PResL, E.out]
  simp only [if_true]
  have hsz : w1.drew.heap.size = w1.heap.size := rfl
  have hb : Below w.heap.size w w' := Writes.below (below_then hB.out.drew hbq) hw (by omega)
  refine ⟨a, cap, rfl, hb, ?_⟩
  rw [hs]
  refine Own.wide (Own.writes ho hw (.inr (by omega))) ?_ (Nat.le_refl _) (by omega)
  have := hB.out.size; omega
theorem dres_bad {c x i l : Int} {L : List (Int × Int)} {w w' : World} (E : Hid (x = c)) (hb : Below w.heap.size w w') (hc : c ≠ 0) : PResL x i l L w (.returned (.agg #[.int .i64 c, .int .i64 0, .int .i64 0, .slice none 0 0])) w' := by
  rw [PResL, E.out]
  simp only [if_neg hc]
  exact ⟨none, 0, rfl, hb, Nat.le_refl _, .inl rfl⟩

set_option maxHeartbeats 2000000 in
theorem specDrop_any (idn lsn : Int) (n : Nat) (K V : Nat → Int) (a : Option Addr) (cap : Nat) (key l2 : Int) (w : World) (hn : n ≤ 140737488355328) (h : CellsAt w a n K V) :
    Calls Try.prog 28 #[.agg #[.int .i64 idn, .int .i64 lsn, .slice a n cap], .int .i64 key, .int .i64 l2] w (PResL (dC idn lsn n K V key l2) idn l2 (wo K V key n) w) := by
  have hb0 : ∀ o1 o2, Below w.heap.size w ((w.alloc o1).alloc o2) := fun o1 o2 => ((Below.refl _ _).alloc (Nat.le_refl _) _).alloc (by simp) _
  by_cases h0 : pf idn lsn n K V = 0
  · have g := good_of h0
    by_cases h1 : inB key 0 31 = true
    · by_cases h2 : inB l2 0 1000000 = true
      · by_cases hh : has K key n = true
        · have E : Hid (dC idn lsn n K V key l2 = 0) := by show dC idn lsn n K V key l2 = 0; rw [dC, if_pos h0, if_neg (by simp [h1, h2]), if_pos hh]
          have hf0 := fnd_eq (key := key) g.grise
          rw [if_pos hh] at hf0
          go_enter Try.func28, Try.ntmps28
          go_wp2_with fail
          refine (specFault_any idn lsn n K V _ cap _ hn (h.below (hb0 _ _))).mono ?_
          rintro e w1 ⟨rfl, hb1⟩
          rw [h0]
          have HA : Hid (CellsAt w1 a n K V) := (h.below (hb0 _ _)).below hb1
          obtain ⟨hc, hf⟩ := bcell hb1
          have hz : w.heap.size + 1 < w1.heap.size := by have hq := hb1.size; simp at hq; omega
          have k0 : w1.cell? ⟨w.heap.size, 0, none⟩ = some (.int .i64 idn) := by rw [hc _ _ (by simp <;> omega)]; simp [go_sem]
          have k1 : w1.cell? ⟨w.heap.size, 2, none⟩ = some (.slice a n cap) := by rw [hc _ _ (by simp <;> omega)]; simp [go_sem]
          have r0 : w1.cell? ⟨w.heap.size + 1, 0, none⟩ = some (.int .i64 0) := by simp [hc]
          have r1 : w1.cell? ⟨w.heap.size + 1, 1, none⟩ = some (.int .i64 0) := by simp [hc]
          have r2 : w1.cell? ⟨w.heap.size + 1, 2, none⟩ = some (.int .i64 0) := by simp [hc]
          have r3 : w1.cell? ⟨w.heap.size + 1, 3, none⟩ = some (.slice none 0 0) := by simp [hc]
          have f0 : ∀ i, w1.frozen? ⟨w.heap.size + 1, i, none⟩ = false := fun i => by simp [hf, go_sem]
          have HB : Hid (Below w.heap.size w w1) := below_then (hb0 _ _) hb1
          have hn12 : n ≤ 1000 := by have := g.gn; omega
          clear h0 hc hf hb1 hb0
          go_wp2_with (first | (go_at_call 42; refine (l1Key_any _ _).mono ?_; rintro e w' ⟨rfl, rfl⟩) | (go_at_call 41; refine (l1Lsn_any _ _).mono ?_; rintro e w' ⟨rfl, rfl⟩))
          refine (find_any n K V key _ cap _ (by omega) HA.out).mono ?_
          rintro e w2 ⟨rfl, rfl⟩
          rw [hf0]
          have hpp : ¬ ((pl K key n : Int) < 0) := by omega
          clear hf0 hh
          go_wp2_with fail
          go_region_held3 (fun w' => w'.cell? ⟨w.heap.size, 0, none⟩ = some (.int .i64 idn) ∧ w'.cell? ⟨w.heap.size, 2, none⟩ = some (.slice a n cap)) (go_keep)
            (first | (go_at_call 62; have HH := specWithout_any n K V key a cap w2.drew hn12 HA.out; refine HH.mono ?_; clear HH; rintro e wq ⟨a', cap', rfl, hbq, hoq⟩; obtain ⟨s0, s1, t0, t1, t2, t3, fz⟩ := after_call k0 k1 r0 r1 r2 r3 f0 hz hbq))
          go_wp2
          refine bodyPost_ret (v := .agg #[.int .i64 0, .int .i64 idn, .int .i64 l2, .slice a' (wo K V key n).length cap']) (by simp [results, Try.results28, go_sem, *]) rfl ?_
          refine dres_ok E HB hbq hz hoq ?_ (by simp [World.setCell])
          repeat (first | exact Writes.refl _ _ _ | apply Writes.drew | refine Writes.setCell ?_ (by first | omega | (simp <;> omega)) (by first | omega | (simp <;> omega)) _)
        · have E : Hid (dC idn lsn n K V key l2 = 4) := by show dC idn lsn n K V key l2 = 4; rw [dC, if_pos h0, if_neg (by simp [h1, h2]), if_neg hh]
          have hf0 := fnd_eq (key := key) g.grise
          rw [if_neg hh] at hf0
          go_enter Try.func28, Try.ntmps28
          go_wp2_with fail
          refine (specFault_any idn lsn n K V _ cap _ hn (h.below (hb0 _ _))).mono ?_
          rintro e w1 ⟨rfl, hb1⟩
          rw [h0]
          have HA : Hid (CellsAt w1 a n K V) := (h.below (hb0 _ _)).below hb1
          obtain ⟨hc, hf⟩ := bcell hb1
          clear h0
          go_wp2_with (first | (go_at_call 42; refine (l1Key_any _ _).mono ?_; rintro e w' ⟨rfl, rfl⟩) | (go_at_call 41; refine (l1Lsn_any _ _).mono ?_; rintro e w' ⟨rfl, rfl⟩))
          refine (find_any n K V key _ cap _ (by omega) HA.out).mono ?_
          rintro e w2 ⟨rfl, rfl⟩
          rw [hf0]
          clear hf0
          go_wp2_with fail
          refine bodyPost_ret (v := .agg #[.int .i64 (4), .int .i64 (0), .int .i64 (0), .slice none 0 0]) (by simp [results, Try.results28, go_sem, hc]) rfl ?_
          refine dres_bad E ?_ (by omega)
          repeat (first | exact below_then (hb0 _ _) hb1 | refine Below.setCell ?_ (by first | omega | (simp <;> omega)) _)
      · have E : Hid (dC idn lsn n K V key l2 = 3) := by show dC idn lsn n K V key l2 = 3; rw [dC, if_pos h0, if_pos (.inr (by simpa using h2))]
        have h3 : inB l2 0 1000000 = false := by simpa using h2
        go_enter Try.func28, Try.ntmps28
        go_wp2_with fail
        refine (specFault_any idn lsn n K V _ cap _ hn (h.below (hb0 _ _))).mono ?_
        rintro e w1 ⟨rfl, hb1⟩
        rw [h0]
        obtain ⟨hc, hf⟩ := bcell hb1
        clear h0 h2
        go_wp2_with (first | (go_at_call 42; refine (l1Key_any _ _).mono ?_; rintro e w' ⟨rfl, rfl⟩) | (go_at_call 41; refine (l1Lsn_any _ _).mono ?_; rintro e w' ⟨rfl, rfl⟩))
        refine bodyPost_ret (v := .agg #[.int .i64 (3), .int .i64 (0), .int .i64 (0), .slice none 0 0]) (by simp [results, Try.results28, go_sem, hc]) rfl ?_
        refine dres_bad E ?_ (by omega)
        repeat (first | exact below_then (hb0 _ _) hb1 | refine Below.setCell ?_ (by first | omega | (simp <;> omega)) _)
    · have E : Hid (dC idn lsn n K V key l2 = 3) := by show dC idn lsn n K V key l2 = 3; rw [dC, if_pos h0, if_pos (.inl (by simpa using h1))]
      have h3 : inB key 0 31 = false := by simpa using h1
      go_enter Try.func28, Try.ntmps28
      go_wp2_with fail
      refine (specFault_any idn lsn n K V _ cap _ hn (h.below (hb0 _ _))).mono ?_
      rintro e w1 ⟨rfl, hb1⟩
      rw [h0]
      obtain ⟨hc, hf⟩ := bcell hb1
      clear h0 h1
      go_wp2_with (first | (go_at_call 42; refine (l1Key_any _ _).mono ?_; rintro e w' ⟨rfl, rfl⟩) | (go_at_call 41; refine (l1Lsn_any _ _).mono ?_; rintro e w' ⟨rfl, rfl⟩))
      refine bodyPost_ret (v := .agg #[.int .i64 (3), .int .i64 (0), .int .i64 (0), .slice none 0 0]) (by simp [results, Try.results28, go_sem, hc]) rfl ?_
      refine dres_bad E ?_ (by omega)
      repeat (first | exact below_then (hb0 _ _) hb1 | refine Below.setCell ?_ (by first | omega | (simp <;> omega)) _)
  · have E : Hid (dC idn lsn n K V key l2 = pf idn lsn n K V) := by show dC idn lsn n K V key l2 = pf idn lsn n K V; rw [dC, if_neg h0]
    have hd : (pf idn lsn n K V != 0) = true := by simpa using h0
    have HN : Hid (pf idn lsn n K V ≠ 0) := h0
    go_enter Try.func28, Try.ntmps28
    go_wp2_with fail
    refine (specFault_any idn lsn n K V _ cap _ hn (h.below (hb0 _ _))).mono ?_
    rintro e w1 ⟨rfl, hb1⟩
    obtain ⟨hc, hf⟩ := bcell hb1
    generalize pf idn lsn n K V = c at *
    clear h0
    go_wp2_with fail
    refine bodyPost_ret (v := .agg #[.int .i64 (c), .int .i64 (0), .int .i64 (0), .slice none 0 0]) (by simp [results, Try.results28, go_sem, hc]) rfl ?_
    refine dres_bad E ?_ HN.out
    repeat (first | exact below_then (hb0 _ _) hb1 | refine Below.setCell ?_ (by first | omega | (simp <;> omega)) _)

set_option maxHeartbeats 2000000 in
theorem implDrop_any (idn lsn : Int) (n : Nat) (K V : Nat → Int) (a : Option Addr) (cap : Nat) (key l2 : Int) (w : World) (hn : n ≤ 140737488355328) (h : CellsAt w a n K V) :
    Calls Try.prog 18 #[.agg #[.int .i64 idn, .int .i64 lsn, .slice a n cap], .int .i64 key, .int .i64 l2] w (PResL (dC idn lsn n K V key l2) idn l2 (wo K V key n) w) := by
  have hb0 : ∀ o1 o2, Below w.heap.size w ((w.alloc o1).alloc o2) := fun o1 o2 => ((Below.refl _ _).alloc (Nat.le_refl _) _).alloc (by simp) _
  by_cases h0 : pf idn lsn n K V = 0
  · have g := good_of h0
    by_cases h1 : inB key 0 31 = true
    · by_cases h2 : inB l2 0 1000000 = true
      · by_cases hh : has K key n = true
        · have E : Hid (dC idn lsn n K V key l2 = 0) := by show dC idn lsn n K V key l2 = 0; rw [dC, if_pos h0, if_neg (by simp [h1, h2]), if_pos hh]
          skip
          go_enter Try.func18, Try.ntmps18
          go_wp2_with fail
          refine (implFault_any idn lsn n K V _ cap _ hn (h.below (hb0 _ _))).mono ?_
          rintro e w1 ⟨rfl, hb1⟩
          rw [h0]
          have HA : Hid (CellsAt w1 a n K V) := (h.below (hb0 _ _)).below hb1
          obtain ⟨hc, hf⟩ := bcell hb1
          have hz : w.heap.size + 1 < w1.heap.size := by have hq := hb1.size; simp at hq; omega
          have k0 : w1.cell? ⟨w.heap.size, 0, none⟩ = some (.int .i64 idn) := by rw [hc _ _ (by simp <;> omega)]; simp [go_sem]
          have k1 : w1.cell? ⟨w.heap.size, 2, none⟩ = some (.slice a n cap) := by rw [hc _ _ (by simp <;> omega)]; simp [go_sem]
          have r0 : w1.cell? ⟨w.heap.size + 1, 0, none⟩ = some (.int .i64 0) := by simp [hc]
          have r1 : w1.cell? ⟨w.heap.size + 1, 1, none⟩ = some (.int .i64 0) := by simp [hc]
          have r2 : w1.cell? ⟨w.heap.size + 1, 2, none⟩ = some (.int .i64 0) := by simp [hc]
          have r3 : w1.cell? ⟨w.heap.size + 1, 3, none⟩ = some (.slice none 0 0) := by simp [hc]
          have f0 : ∀ i, w1.frozen? ⟨w.heap.size + 1, i, none⟩ = false := fun i => by simp [hf, go_sem]
          have HB : Hid (Below w.heap.size w w1) := below_then (hb0 _ _) hb1
          have hn12 : n ≤ 1000 := by have := g.gn; omega
          clear h0 hc hf hb1 hb0
          go_wp2_with (first | (go_at_call 46; refine (isKey_any _ _).mono ?_; rintro e w' ⟨rfl, rfl⟩) | (go_at_call 48; refine (isLsn_any _ _).mono ?_; rintro e w' ⟨rfl, rfl⟩))
          refine (hasCell_any n K V key _ cap _ (by omega) HA.out).mono ?_
          rintro e w2 ⟨rfl, rfl⟩
          rw [hh]
          clear hh
          go_wp2_with fail
          go_region_held3 (fun w' => w'.cell? ⟨w.heap.size, 0, none⟩ = some (.int .i64 idn) ∧ w'.cell? ⟨w.heap.size, 2, none⟩ = some (.slice a n cap)) (go_keep)
            (first | (go_at_call 53; have HH := implWithout_any n K V key a cap w2.drew hn12 HA.out; refine HH.mono ?_; clear HH; rintro e wq ⟨a', cap', rfl, hbq, hoq⟩; obtain ⟨s0, s1, t0, t1, t2, t3, fz⟩ := after_call k0 k1 r0 r1 r2 r3 f0 hz hbq))
          go_wp2
          refine bodyPost_ret (v := .agg #[.int .i64 0, .int .i64 idn, .int .i64 l2, .slice a' (wo K V key n).length cap']) (by simp [results, Try.results18, go_sem, *]) rfl ?_
          refine dres_ok E HB hbq hz hoq ?_ (by simp [World.setCell])
          repeat (first | exact Writes.refl _ _ _ | apply Writes.drew | refine Writes.setCell ?_ (by first | omega | (simp <;> omega)) (by first | omega | (simp <;> omega)) _)
        · have E : Hid (dC idn lsn n K V key l2 = 4) := by show dC idn lsn n K V key l2 = 4; rw [dC, if_pos h0, if_neg (by simp [h1, h2]), if_neg hh]
          have hh' : has K key n = false := by simpa using hh
          go_enter Try.func18, Try.ntmps18
          go_wp2_with fail
          refine (implFault_any idn lsn n K V _ cap _ hn (h.below (hb0 _ _))).mono ?_
          rintro e w1 ⟨rfl, hb1⟩
          rw [h0]
          have HA : Hid (CellsAt w1 a n K V) := (h.below (hb0 _ _)).below hb1
          obtain ⟨hc, hf⟩ := bcell hb1
          clear h0
          go_wp2_with (first | (go_at_call 46; refine (isKey_any _ _).mono ?_; rintro e w' ⟨rfl, rfl⟩) | (go_at_call 48; refine (isLsn_any _ _).mono ?_; rintro e w' ⟨rfl, rfl⟩))
          refine (hasCell_any n K V key _ cap _ (by omega) HA.out).mono ?_
          rintro e w2 ⟨rfl, rfl⟩
          rw [hh']
          clear hh' 
          go_wp2_with fail
          refine bodyPost_ret (v := .agg #[.int .i64 (4), .int .i64 (0), .int .i64 (0), .slice none 0 0]) (by simp [results, Try.results18, go_sem, hc]) rfl ?_
          refine dres_bad E ?_ (by omega)
          repeat (first | exact below_then (hb0 _ _) hb1 | refine Below.setCell ?_ (by first | omega | (simp <;> omega)) _)
      · have E : Hid (dC idn lsn n K V key l2 = 3) := by show dC idn lsn n K V key l2 = 3; rw [dC, if_pos h0, if_pos (.inr (by simpa using h2))]
        have h3 : inB l2 0 1000000 = false := by simpa using h2
        go_enter Try.func18, Try.ntmps18
        go_wp2_with fail
        refine (implFault_any idn lsn n K V _ cap _ hn (h.below (hb0 _ _))).mono ?_
        rintro e w1 ⟨rfl, hb1⟩
        rw [h0]
        obtain ⟨hc, hf⟩ := bcell hb1
        clear h0 h2
        go_wp2_with (first | (go_at_call 46; refine (isKey_any _ _).mono ?_; rintro e w' ⟨rfl, rfl⟩) | (go_at_call 48; refine (isLsn_any _ _).mono ?_; rintro e w' ⟨rfl, rfl⟩))
        refine bodyPost_ret (v := .agg #[.int .i64 (3), .int .i64 (0), .int .i64 (0), .slice none 0 0]) (by simp [results, Try.results18, go_sem, hc]) rfl ?_
        refine dres_bad E ?_ (by omega)
        repeat (first | exact below_then (hb0 _ _) hb1 | refine Below.setCell ?_ (by first | omega | (simp <;> omega)) _)
    · have E : Hid (dC idn lsn n K V key l2 = 3) := by show dC idn lsn n K V key l2 = 3; rw [dC, if_pos h0, if_pos (.inl (by simpa using h1))]
      have h3 : inB key 0 31 = false := by simpa using h1
      go_enter Try.func18, Try.ntmps18
      go_wp2_with fail
      refine (implFault_any idn lsn n K V _ cap _ hn (h.below (hb0 _ _))).mono ?_
      rintro e w1 ⟨rfl, hb1⟩
      rw [h0]
      obtain ⟨hc, hf⟩ := bcell hb1
      clear h0 h1
      go_wp2_with (first | (go_at_call 46; refine (isKey_any _ _).mono ?_; rintro e w' ⟨rfl, rfl⟩) | (go_at_call 48; refine (isLsn_any _ _).mono ?_; rintro e w' ⟨rfl, rfl⟩))
      refine bodyPost_ret (v := .agg #[.int .i64 (3), .int .i64 (0), .int .i64 (0), .slice none 0 0]) (by simp [results, Try.results18, go_sem, hc]) rfl ?_
      refine dres_bad E ?_ (by omega)
      repeat (first | exact below_then (hb0 _ _) hb1 | refine Below.setCell ?_ (by first | omega | (simp <;> omega)) _)
  · have E : Hid (dC idn lsn n K V key l2 = pf idn lsn n K V) := by show dC idn lsn n K V key l2 = pf idn lsn n K V; rw [dC, if_neg h0]
    have hd : (pf idn lsn n K V != 0) = true := by simpa using h0
    have HN : Hid (pf idn lsn n K V ≠ 0) := h0
    go_enter Try.func18, Try.ntmps18
    go_wp2_with fail
    refine (implFault_any idn lsn n K V _ cap _ hn (h.below (hb0 _ _))).mono ?_
    rintro e w1 ⟨rfl, hb1⟩
    obtain ⟨hc, hf⟩ := bcell hb1
    generalize pf idn lsn n K V = c at *
    clear h0
    go_wp2_with fail
    refine bodyPost_ret (v := .agg #[.int .i64 (c), .int .i64 (0), .int .i64 (0), .slice none 0 0]) (by simp [results, Try.results18, go_sem, hc]) rfl ?_
    refine dres_bad E ?_ HN.out
    repeat (first | exact below_then (hb0 _ _) hb1 | refine Below.setCell ?_ (by first | omega | (simp <;> omega)) _)
end Go.Proofs.Ytnhkjdcbaphfcaa
