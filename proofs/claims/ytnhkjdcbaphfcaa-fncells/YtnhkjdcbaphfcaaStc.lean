/- SetCell: both sides. -/
import Derived.Test.YtnhkjdcbaphfcaaWm
import Derived.Test.YtnhkjdcbaphfcaaWj
import Derived.Test.YtnhkjdcbaphfcaaDrp
namespace Go.Proofs.Ytnhkjdcbaphfcaa
open Go.RowKit Go.Deep
set_option linter.unusedVariables false
set_option maxRecDepth 20000

def sC (idn lsn : Int) (n : Nat) (K V : Nat → Int) (key val l2 : Int) : Int :=
  if pf idn lsn n K V = 0 then (if inB key 0 31 = false ∨ inB val 0 9999 = false ∨ inB l2 0 1000000 = false then 3 else if n = 12 ∧ has K key n = false then 2 else 0) else pf idn lsn n K V
theorem implWith_own (n : Nat) (K V : Nat → Int) (key val : Int) (b off cap : Nat) (w : World) (hn : n ≤ 1000) (hcap : n ≤ cap) (h : CellsAt w (some ⟨b, off, none⟩) n K V) :
    Calls Try.prog 50 #[.slice (some ⟨b, off, none⟩) n cap, .agg #[.int .i64 key, .int .i64 val]] w fun e w' =>
      ∃ a' cap', e = .returned (.slice a' (wi K V key val n).length cap') ∧ Below w.heap.size w w' ∧ Own w' w.heap.size w'.heap.size a' (wi K V key val n).length (kOf (wi K V key val n)) (vOf (wi K V key val n)) := by
  refine (implWith_any n K V key val b off cap w hn hcap h).mono ?_
  rintro e w' ⟨v, rfl, hb, ho⟩
  obtain ⟨a', cap', rfl, ho2⟩ := own_of_row ho
  exact ⟨a', cap', rfl, hb, ho2⟩
theorem specWith_own (n : Nat) (K V : Nat → Int) (key val : Int) (b off cap : Nat) (w : World) (hn : n ≤ 1000) (hcap : n ≤ cap) (hr : Rising K n) (h : CellsAt w (some ⟨b, off, none⟩) n K V) :
    Calls Try.prog 52 #[.slice (some ⟨b, off, none⟩) n cap, .int .i64 key, .int .i64 val] w fun e w' =>
      ∃ a' cap', e = .returned (.slice a' (wi K V key val n).length cap') ∧ Below w.heap.size w w' ∧ Own w' w.heap.size w'.heap.size a' (wi K V key val n).length (kOf (wi K V key val n)) (vOf (wi K V key val n)) := by
  refine (specWith_any n K V key val _ cap w hn h).mono ?_
  rintro e w' ⟨v, rfl, hb, ho⟩
  rw [ws_eq hr] at ho
  obtain ⟨a', cap', rfl, ho2⟩ := own_of_row ho
  exact ⟨a', cap', rfl, hb, ho2⟩
theorem after_call' {w wq : World} {B C : Nat} {x0 x1 y0 y1 y2 y3 : Value} (k0 : w.cell? ⟨B, 0, none⟩ = some x0) (k1 : w.cell? ⟨B, 2, none⟩ = some x1) (r0 : w.cell? ⟨C, 0, none⟩ = some y0) (r1 : w.cell? ⟨C, 1, none⟩ = some y1) (r2 : w.cell? ⟨C, 2, none⟩ = some y2) (r3 : w.cell? ⟨C, 3, none⟩ = some y3)
    (f0 : ∀ i, w.frozen? ⟨C, i, none⟩ = false) (hz : C < w.heap.size) (hb : Below w.heap.size w wq) :
    wq.cell? ⟨B, 0, none⟩ = some x0 ∧ wq.cell? ⟨B, 2, none⟩ = some x1 ∧ wq.cell? ⟨C, 0, none⟩ = some y0 ∧ wq.cell? ⟨C, 1, none⟩ = some y1 ∧ wq.cell? ⟨C, 2, none⟩ = some y2 ∧ wq.cell? ⟨C, 3, none⟩ = some y3 ∧ (∀ i, wq.frozen? ⟨C, i, none⟩ = false) :=
  ⟨cell_below k0 hb, cell_below k1 hb, cell_below r0 hb, cell_below r1 hb, cell_below r2 hb, cell_below r3 hb, fun i => (hb.frozen (p := ⟨C, i, none⟩) hz).trans (f0 i)⟩
theorem dres_ok' {x i l : Int} {L : List (Int × Int)} {w w1 wq w' : World} {a : Option Addr} {cap : Nat} (E : Hid (x = 0)) (hB : Hid (Below w.heap.size w w1)) (hbq : Below w1.heap.size w1 wq) (hz : w.heap.size + 1 < w1.heap.size)
    (ho : Own wq w1.heap.size wq.heap.size a L.length (kOf L) (vOf L)) (hw : Writes (w.heap.size + 1) (w.heap.size + 2) wq w') (hs : w'.heap.size = wq.heap.size) :
    PResL x i l L w (.returned (.agg #[.int .i64 0, .int .i64 i, .int .i64 l, .slice a L.length cap])) w' := by
  rw [PResL, E.out]
  simp only [if_true]
  have hb : Below w.heap.size w w' := Writes.below (below_then hB.out hbq) hw (by omega)
  refine ⟨a, cap, rfl, hb, ?_⟩
  rw [hs]
  refine Own.wide (Own.writes ho hw (.inr (by omega))) ?_ (Nat.le_refl _) (by omega)
  have := hB.out.size; omega

set_option maxHeartbeats 4000000 in
theorem specSet_any (idn lsn : Int) (n : Nat) (K V : Nat → Int) (b off cap : Nat) (key val l2 : Int) (w : World) (hn : n ≤ 140737488355328) (hcap : n ≤ cap) (h : CellsAt w (some ⟨b, off, none⟩) n K V) :
    Calls Try.prog 17 #[.agg #[.int .i64 idn, .int .i64 lsn, .slice (some ⟨b, off, none⟩) n cap], .int .i64 key, .int .i64 val, .int .i64 l2] w (PResL (sC idn lsn n K V key val l2) idn l2 (wi K V key val n) w) := by
  have hb0 : ∀ o1 o2, Below w.heap.size w ((w.alloc o1).alloc o2) := fun o1 o2 => ((Below.refl _ _).alloc (Nat.le_refl _) _).alloc (by simp) _
  by_cases h0 : pf idn lsn n K V = 0
  · have g := good_of h0
    have hn12 := g.gn
    have HM : Hid (n ≤ 1000) := by show n ≤ 1000; omega
    have HRI : Hid (Rising K n) := g.grise
    by_cases h1 : inB key 0 31 = true
    · by_cases h2 : inB val 0 9999 = true
      · by_cases h3 : inB l2 0 1000000 = true
        · by_cases h12 : n = 12
          · subst h12
            by_cases hh : has K key 12 = true
            · have E : Hid (sC idn lsn 12 K V key val l2 = 0) := by show sC idn lsn 12 K V key val l2 = 0; rw [sC, if_pos h0, if_neg (by simp [h1, h2, h3]), if_neg (by simp [hh])]
              have hf0 := fnd_eq (key := key) g.grise
              rw [if_pos hh] at hf0
              clear g
              go_enter Try.func17, Try.ntmps17
              go_wp2_with fail
              refine (specFault_any idn lsn 12 K V _ cap _ (by omega) (h.below (hb0 _ _))).mono ?_
              rintro e w1 ⟨rfl, hb1⟩
              rw [h0]
              have HA : Hid (CellsAt w1 (some ⟨b, off, none⟩) 12 K V) := (h.below (hb0 _ _)).below hb1
              obtain ⟨hc, hf⟩ := bcell hb1
              have hz : w.heap.size + 1 < w1.heap.size := by have hq := hb1.size; simp at hq; omega
              have k0 : w1.cell? ⟨w.heap.size, 0, none⟩ = some (.int .i64 idn) := by rw [hc _ _ (by simp <;> omega)]; simp [go_sem]
              have k1 : w1.cell? ⟨w.heap.size, 2, none⟩ = some (.slice (some ⟨b, off, none⟩) 12 cap) := by rw [hc _ _ (by simp <;> omega)]; simp [go_sem]
              have r0 : w1.cell? ⟨w.heap.size + 1, 0, none⟩ = some (.int .i64 0) := by simp [hc]
              have r1 : w1.cell? ⟨w.heap.size + 1, 1, none⟩ = some (.int .i64 0) := by simp [hc]
              have r2 : w1.cell? ⟨w.heap.size + 1, 2, none⟩ = some (.int .i64 0) := by simp [hc]
              have r3 : w1.cell? ⟨w.heap.size + 1, 3, none⟩ = some (.slice none 0 0) := by simp [hc]
              have f0 : ∀ i, w1.frozen? ⟨w.heap.size + 1, i, none⟩ = false := fun i => by simp [hf, go_sem]
              have HB : Hid (Below w.heap.size w w1) := below_then (hb0 _ _) hb1
              clear h0 hc hf hb1 hb0
              go_wp2_with (first | (go_at_call 42; refine (l1Key_any _ _).mono ?_; rintro e w' ⟨rfl, rfl⟩) | (go_at_call 43; refine (l1Value_any _ _).mono ?_; rintro e w' ⟨rfl, rfl⟩) | (go_at_call 41; refine (l1Lsn_any _ _).mono ?_; rintro e w' ⟨rfl, rfl⟩))
              refine (find_any 12 K V key _ cap _ (by omega) HA.out).mono ?_
              rintro e w2 ⟨rfl, rfl⟩
              rw [hf0]
              have hpp : ¬ ((pl K key 12 : Int) < 0) := by omega
              clear hf0 hh
              go_wp2_with fail
              go_region_held3 (fun w' => w'.cell? ⟨w.heap.size, 0, none⟩ = some (.int .i64 idn) ∧ w'.cell? ⟨w.heap.size, 2, none⟩ = some (.slice (some ⟨b, off, none⟩) 12 cap)) (go_keep)
                (first | (go_at_call 52; have HH := specWith_own 12 K V key val b off cap w2.drew HM.out hcap HRI.out HA.out; refine HH.mono ?_; clear HH; rintro e wq ⟨a', cap', rfl, hbq, hoq⟩; obtain ⟨s0, s1, t0, t1, t2, t3, fz⟩ := after_call k0 k1 r0 r1 r2 r3 f0 hz hbq))
              go_wp2
              refine bodyPost_ret (v := .agg #[.int .i64 0, .int .i64 idn, .int .i64 l2, .slice a' (wi K V key val 12).length cap']) (by simp [results, Try.results17, go_sem, *]) rfl ?_
              refine dres_ok E HB hbq hz hoq ?_ (by simp [World.setCell])
              repeat (first | exact Writes.refl _ _ _ | apply Writes.drew | refine Writes.setCell ?_ (by first | omega | (simp <;> omega)) (by first | omega | (simp <;> omega)) _)
            · have E : Hid (sC idn lsn 12 K V key val l2 = 2) := by show sC idn lsn 12 K V key val l2 = 2; rw [sC, if_pos h0, if_neg (by simp [h1, h2, h3]), if_pos ⟨rfl, by simpa using hh⟩]
              have hf0 := fnd_eq (key := key) g.grise
              rw [if_neg hh] at hf0
              clear g hh
              go_enter Try.func17, Try.ntmps17
              go_wp2_with fail
              refine (specFault_any idn lsn 12 K V _ cap _ (by omega) (h.below (hb0 _ _))).mono ?_
              rintro e w1 ⟨rfl, hb1⟩
              rw [h0]
              have HA : Hid (CellsAt w1 (some ⟨b, off, none⟩) 12 K V) := (h.below (hb0 _ _)).below hb1
              obtain ⟨hc, hf⟩ := bcell hb1
              clear h0
              go_wp2_with (first | (go_at_call 42; refine (l1Key_any _ _).mono ?_; rintro e w' ⟨rfl, rfl⟩) | (go_at_call 43; refine (l1Value_any _ _).mono ?_; rintro e w' ⟨rfl, rfl⟩) | (go_at_call 41; refine (l1Lsn_any _ _).mono ?_; rintro e w' ⟨rfl, rfl⟩))
              refine (find_any 12 K V key _ cap _ (by omega) HA.out).mono ?_
              rintro e w2 ⟨rfl, rfl⟩
              rw [hf0]
              clear hf0
              go_wp2_with fail
              refine bodyPost_ret (v := .agg #[.int .i64 (2), .int .i64 (0), .int .i64 (0), .slice none 0 0]) (by simp [results, Try.results17, go_sem, hc]) rfl ?_
              refine dres_bad E ?_ (by omega)
              repeat (first | exact below_then (hb0 _ _) hb1 | refine Below.setCell ?_ (by first | omega | (simp <;> omega)) _)
          · have hlt : n < 12 := by omega
            have E : Hid (sC idn lsn n K V key val l2 = 0) := by show sC idn lsn n K V key val l2 = 0; rw [sC, if_pos h0, if_neg (by simp [h1, h2, h3]), if_neg (by simp [h12])]
            have hd1 : decide (12 ≤ n) = false := by simp; omega
            have hd2 : ((n : Int) == 12) = false := by simp; omega
            clear g h12
            go_enter Try.func17, Try.ntmps17
            go_wp2_with fail
            refine (specFault_any idn lsn n K V _ cap _ (by omega) (h.below (hb0 _ _))).mono ?_
            rintro e w1 ⟨rfl, hb1⟩
            rw [h0]
            have HA : Hid (CellsAt w1 (some ⟨b, off, none⟩) n K V) := (h.below (hb0 _ _)).below hb1
            obtain ⟨hc, hf⟩ := bcell hb1
            have hz : w.heap.size + 1 < w1.heap.size := by have hq := hb1.size; simp at hq; omega
            have k0 : w1.cell? ⟨w.heap.size, 0, none⟩ = some (.int .i64 idn) := by rw [hc _ _ (by simp <;> omega)]; simp [go_sem]
            have k1 : w1.cell? ⟨w.heap.size, 2, none⟩ = some (.slice (some ⟨b, off, none⟩) n cap) := by rw [hc _ _ (by simp <;> omega)]; simp [go_sem]
            have r0 : w1.cell? ⟨w.heap.size + 1, 0, none⟩ = some (.int .i64 0) := by simp [hc]
            have r1 : w1.cell? ⟨w.heap.size + 1, 1, none⟩ = some (.int .i64 0) := by simp [hc]
            have r2 : w1.cell? ⟨w.heap.size + 1, 2, none⟩ = some (.int .i64 0) := by simp [hc]
            have r3 : w1.cell? ⟨w.heap.size + 1, 3, none⟩ = some (.slice none 0 0) := by simp [hc]
            have f0 : ∀ i, w1.frozen? ⟨w.heap.size + 1, i, none⟩ = false := fun i => by simp [hf, go_sem]
            have HB : Hid (Below w.heap.size w w1) := below_then (hb0 _ _) hb1
            clear h0 hc hf hb1 hb0
            go_wp2_with (first | (go_at_call 42; refine (l1Key_any _ _).mono ?_; rintro e w' ⟨rfl, rfl⟩) | (go_at_call 43; refine (l1Value_any _ _).mono ?_; rintro e w' ⟨rfl, rfl⟩) | (go_at_call 41; refine (l1Lsn_any _ _).mono ?_; rintro e w' ⟨rfl, rfl⟩))
            go_region_held3 (fun w' => w'.cell? ⟨w.heap.size, 0, none⟩ = some (.int .i64 idn) ∧ w'.cell? ⟨w.heap.size, 2, none⟩ = some (.slice (some ⟨b, off, none⟩) n cap)) (go_keep)
              (first | (go_at_call 52; have HH := specWith_own n K V key val b off cap w'.drew HM.out hcap HRI.out HA.out; refine HH.mono ?_; clear HH; rintro e wq ⟨a', cap', rfl, hbq, hoq⟩; obtain ⟨s0, s1, t0, t1, t2, t3, fz⟩ := after_call k0 k1 r0 r1 r2 r3 f0 hz hbq))
            go_wp2
            refine bodyPost_ret (v := .agg #[.int .i64 0, .int .i64 idn, .int .i64 l2, .slice a' (wi K V key val n).length cap']) (by simp [results, Try.results17, go_sem, *]) rfl ?_
            refine dres_ok E HB hbq hz hoq ?_ (by simp [World.setCell])
            repeat (first | exact Writes.refl _ _ _ | apply Writes.drew | refine Writes.setCell ?_ (by first | omega | (simp <;> omega)) (by first | omega | (simp <;> omega)) _)
        · have E : Hid (sC idn lsn n K V key val l2 = 3) := by show sC idn lsn n K V key val l2 = 3; rw [sC, if_pos h0, if_pos (.inr (.inr (by simpa using h3)))]
          have h4 : inB l2 0 1000000 = false := by simpa using h3
          go_enter Try.func17, Try.ntmps17
          go_wp2_with fail
          refine (specFault_any idn lsn n K V _ cap _ (by omega) (h.below (hb0 _ _))).mono ?_
          rintro e w1 ⟨rfl, hb1⟩
          rw [h0]
          obtain ⟨hc, hf⟩ := bcell hb1
          clear h0 h3
          go_wp2_with (first | (go_at_call 42; refine (l1Key_any _ _).mono ?_; rintro e w' ⟨rfl, rfl⟩) | (go_at_call 43; refine (l1Value_any _ _).mono ?_; rintro e w' ⟨rfl, rfl⟩) | (go_at_call 41; refine (l1Lsn_any _ _).mono ?_; rintro e w' ⟨rfl, rfl⟩))
          refine bodyPost_ret (v := .agg #[.int .i64 (3), .int .i64 (0), .int .i64 (0), .slice none 0 0]) (by simp [results, Try.results17, go_sem, hc]) rfl ?_
          refine dres_bad E ?_ (by omega)
          repeat (first | exact below_then (hb0 _ _) hb1 | refine Below.setCell ?_ (by first | omega | (simp <;> omega)) _)
      · have E : Hid (sC idn lsn n K V key val l2 = 3) := by show sC idn lsn n K V key val l2 = 3; rw [sC, if_pos h0, if_pos (.inr (.inl (by simpa using h2)))]
        have h4 : inB val 0 9999 = false := by simpa using h2
        go_enter Try.func17, Try.ntmps17
        go_wp2_with fail
        refine (specFault_any idn lsn n K V _ cap _ (by omega) (h.below (hb0 _ _))).mono ?_
        rintro e w1 ⟨rfl, hb1⟩
        rw [h0]
        obtain ⟨hc, hf⟩ := bcell hb1
        clear h0 h2
        go_wp2_with (first | (go_at_call 42; refine (l1Key_any _ _).mono ?_; rintro e w' ⟨rfl, rfl⟩) | (go_at_call 43; refine (l1Value_any _ _).mono ?_; rintro e w' ⟨rfl, rfl⟩) | (go_at_call 41; refine (l1Lsn_any _ _).mono ?_; rintro e w' ⟨rfl, rfl⟩))
        refine bodyPost_ret (v := .agg #[.int .i64 (3), .int .i64 (0), .int .i64 (0), .slice none 0 0]) (by simp [results, Try.results17, go_sem, hc]) rfl ?_
        refine dres_bad E ?_ (by omega)
        repeat (first | exact below_then (hb0 _ _) hb1 | refine Below.setCell ?_ (by first | omega | (simp <;> omega)) _)
    · have E : Hid (sC idn lsn n K V key val l2 = 3) := by show sC idn lsn n K V key val l2 = 3; rw [sC, if_pos h0, if_pos (.inl (by simpa using h1))]
      have h4 : inB key 0 31 = false := by simpa using h1
      go_enter Try.func17, Try.ntmps17
      go_wp2_with fail
      refine (specFault_any idn lsn n K V _ cap _ (by omega) (h.below (hb0 _ _))).mono ?_
      rintro e w1 ⟨rfl, hb1⟩
      rw [h0]
      obtain ⟨hc, hf⟩ := bcell hb1
      clear h0 h1
      go_wp2_with (first | (go_at_call 42; refine (l1Key_any _ _).mono ?_; rintro e w' ⟨rfl, rfl⟩) | (go_at_call 43; refine (l1Value_any _ _).mono ?_; rintro e w' ⟨rfl, rfl⟩) | (go_at_call 41; refine (l1Lsn_any _ _).mono ?_; rintro e w' ⟨rfl, rfl⟩))
      refine bodyPost_ret (v := .agg #[.int .i64 (3), .int .i64 (0), .int .i64 (0), .slice none 0 0]) (by simp [results, Try.results17, go_sem, hc]) rfl ?_
      refine dres_bad E ?_ (by omega)
      repeat (first | exact below_then (hb0 _ _) hb1 | refine Below.setCell ?_ (by first | omega | (simp <;> omega)) _)
  · have E : Hid (sC idn lsn n K V key val l2 = pf idn lsn n K V) := by show sC idn lsn n K V key val l2 = pf idn lsn n K V; rw [sC, if_neg h0]
    have hd : (pf idn lsn n K V != 0) = true := by simpa using h0
    have HNZ : Hid (pf idn lsn n K V ≠ 0) := h0
    go_enter Try.func17, Try.ntmps17
    go_wp2_with fail
    refine (specFault_any idn lsn n K V _ cap _ (by omega) (h.below (hb0 _ _))).mono ?_
    rintro e w1 ⟨rfl, hb1⟩
    obtain ⟨hc, hf⟩ := bcell hb1
    generalize pf idn lsn n K V = c at *
    clear h0
    go_wp2_with fail
    refine bodyPost_ret (v := .agg #[.int .i64 (c), .int .i64 (0), .int .i64 (0), .slice none 0 0]) (by simp [results, Try.results17, go_sem, hc]) rfl ?_
    refine dres_bad E ?_ HNZ.out
    repeat (first | exact below_then (hb0 _ _) hb1 | refine Below.setCell ?_ (by first | omega | (simp <;> omega)) _)

set_option maxHeartbeats 4000000 in
theorem implSet_any (idn lsn : Int) (n : Nat) (K V : Nat → Int) (b off cap : Nat) (key val l2 : Int) (w : World) (hn : n ≤ 140737488355328) (hcap : n ≤ cap) (h : CellsAt w (some ⟨b, off, none⟩) n K V) :
    Calls Try.prog 16 #[.agg #[.int .i64 idn, .int .i64 lsn, .slice (some ⟨b, off, none⟩) n cap], .int .i64 key, .int .i64 val, .int .i64 l2] w (PResL (sC idn lsn n K V key val l2) idn l2 (wi K V key val n) w) := by
  have hb0 : ∀ o1 o2, Below w.heap.size w ((w.alloc o1).alloc o2) := fun o1 o2 => ((Below.refl _ _).alloc (Nat.le_refl _) _).alloc (by simp) _
  by_cases h0 : pf idn lsn n K V = 0
  · have g := good_of h0
    have hn12 := g.gn
    have HM : Hid (n ≤ 1000) := by show n ≤ 1000; omega
    have HRI : Hid (Rising K n) := g.grise
    by_cases h1 : inB key 0 31 = true
    · by_cases h2 : inB val 0 9999 = true
      · by_cases h3 : inB l2 0 1000000 = true
        · by_cases h12 : n = 12
          · subst h12
            by_cases hh : has K key 12 = true
            · have E : Hid (sC idn lsn 12 K V key val l2 = 0) := by show sC idn lsn 12 K V key val l2 = 0; rw [sC, if_pos h0, if_neg (by simp [h1, h2, h3]), if_neg (by simp [hh])]
              skip
              clear g
              go_enter Try.func16, Try.ntmps16
              go_wp2_with fail
              refine (implFault_any idn lsn 12 K V _ cap _ (by omega) (h.below (hb0 _ _))).mono ?_
              rintro e w1 ⟨rfl, hb1⟩
              rw [h0]
              have HA : Hid (CellsAt w1 (some ⟨b, off, none⟩) 12 K V) := (h.below (hb0 _ _)).below hb1
              obtain ⟨hc, hf⟩ := bcell hb1
              have hz : w.heap.size + 1 < w1.heap.size := by have hq := hb1.size; simp at hq; omega
              have k0 : w1.cell? ⟨w.heap.size, 0, none⟩ = some (.int .i64 idn) := by rw [hc _ _ (by simp <;> omega)]; simp [go_sem]
              have k1 : w1.cell? ⟨w.heap.size, 2, none⟩ = some (.slice (some ⟨b, off, none⟩) 12 cap) := by rw [hc _ _ (by simp <;> omega)]; simp [go_sem]
              have r0 : w1.cell? ⟨w.heap.size + 1, 0, none⟩ = some (.int .i64 0) := by simp [hc]
              have r1 : w1.cell? ⟨w.heap.size + 1, 1, none⟩ = some (.int .i64 0) := by simp [hc]
              have r2 : w1.cell? ⟨w.heap.size + 1, 2, none⟩ = some (.int .i64 0) := by simp [hc]
              have r3 : w1.cell? ⟨w.heap.size + 1, 3, none⟩ = some (.slice none 0 0) := by simp [hc]
              have f0 : ∀ i, w1.frozen? ⟨w.heap.size + 1, i, none⟩ = false := fun i => by simp [hf, go_sem]
              have HB : Hid (Below w.heap.size w w1) := below_then (hb0 _ _) hb1
              clear h0 hc hf hb1 hb0
              go_wp2_with (first | (go_at_call 46; refine (isKey_any _ _).mono ?_; rintro e w' ⟨rfl, rfl⟩) | (go_at_call 47; refine (isValue_any _ _).mono ?_; rintro e w' ⟨rfl, rfl⟩) | (go_at_call 48; refine (isLsn_any _ _).mono ?_; rintro e w' ⟨rfl, rfl⟩))
              refine (hasCell_any 12 K V key _ cap _ (by omega) HA.out).mono ?_
              rintro e w2 ⟨rfl, rfl⟩
              rw [hh]
              clear hh
              go_wp2_with fail
              refine (implWith_own 12 K V key val b off cap _ HM.out hcap HA.out).mono ?_
              rintro e wq ⟨a', cap', rfl, hbq, hoq⟩
              obtain ⟨s0, s1, t0, t1, t2, t3, fz⟩ := after_call' k0 k1 r0 r1 r2 r3 f0 hz hbq
              go_wp2_with fail
              refine bodyPost_ret (v := .agg #[.int .i64 0, .int .i64 idn, .int .i64 l2, .slice a' (wi K V key val 12).length cap']) (by simp [results, Try.results16, go_sem, *]) rfl ?_
              refine dres_ok' E HB hbq hz hoq ?_ (by simp [World.setCell])
              repeat (first | exact Writes.refl _ _ _ | apply Writes.drew | refine Writes.setCell ?_ (by first | omega | (simp <;> omega)) (by first | omega | (simp <;> omega)) _)
            · have E : Hid (sC idn lsn 12 K V key val l2 = 2) := by show sC idn lsn 12 K V key val l2 = 2; rw [sC, if_pos h0, if_neg (by simp [h1, h2, h3]), if_pos ⟨rfl, by simpa using hh⟩]
              have hh' : has K key 12 = false := by simpa using hh
              clear g hh
              go_enter Try.func16, Try.ntmps16
              go_wp2_with fail
              refine (implFault_any idn lsn 12 K V _ cap _ (by omega) (h.below (hb0 _ _))).mono ?_
              rintro e w1 ⟨rfl, hb1⟩
              rw [h0]
              have HA : Hid (CellsAt w1 (some ⟨b, off, none⟩) 12 K V) := (h.below (hb0 _ _)).below hb1
              obtain ⟨hc, hf⟩ := bcell hb1
              clear h0
              go_wp2_with (first | (go_at_call 46; refine (isKey_any _ _).mono ?_; rintro e w' ⟨rfl, rfl⟩) | (go_at_call 47; refine (isValue_any _ _).mono ?_; rintro e w' ⟨rfl, rfl⟩) | (go_at_call 48; refine (isLsn_any _ _).mono ?_; rintro e w' ⟨rfl, rfl⟩))
              refine (hasCell_any 12 K V key _ cap _ (by omega) HA.out).mono ?_
              rintro e w2 ⟨rfl, rfl⟩
              rw [hh']
              clear hh'
              go_wp2_with fail
              refine bodyPost_ret (v := .agg #[.int .i64 (2), .int .i64 (0), .int .i64 (0), .slice none 0 0]) (by simp [results, Try.results16, go_sem, hc]) rfl ?_
              refine dres_bad E ?_ (by omega)
              repeat (first | exact below_then (hb0 _ _) hb1 | refine Below.setCell ?_ (by first | omega | (simp <;> omega)) _)
          · have hlt : n < 12 := by omega
            have E : Hid (sC idn lsn n K V key val l2 = 0) := by show sC idn lsn n K V key val l2 = 0; rw [sC, if_pos h0, if_neg (by simp [h1, h2, h3]), if_neg (by simp [h12])]
            have hd1 : decide (12 ≤ n) = false := by simp; omega
            have hd2 : ((n : Int) == 12) = false := by simp; omega
            clear g h12
            go_enter Try.func16, Try.ntmps16
            go_wp2_with fail
            refine (implFault_any idn lsn n K V _ cap _ (by omega) (h.below (hb0 _ _))).mono ?_
            rintro e w1 ⟨rfl, hb1⟩
            rw [h0]
            have HA : Hid (CellsAt w1 (some ⟨b, off, none⟩) n K V) := (h.below (hb0 _ _)).below hb1
            obtain ⟨hc, hf⟩ := bcell hb1
            have hz : w.heap.size + 1 < w1.heap.size := by have hq := hb1.size; simp at hq; omega
            have k0 : w1.cell? ⟨w.heap.size, 0, none⟩ = some (.int .i64 idn) := by rw [hc _ _ (by simp <;> omega)]; simp [go_sem]
            have k1 : w1.cell? ⟨w.heap.size, 2, none⟩ = some (.slice (some ⟨b, off, none⟩) n cap) := by rw [hc _ _ (by simp <;> omega)]; simp [go_sem]
            have r0 : w1.cell? ⟨w.heap.size + 1, 0, none⟩ = some (.int .i64 0) := by simp [hc]
            have r1 : w1.cell? ⟨w.heap.size + 1, 1, none⟩ = some (.int .i64 0) := by simp [hc]
            have r2 : w1.cell? ⟨w.heap.size + 1, 2, none⟩ = some (.int .i64 0) := by simp [hc]
            have r3 : w1.cell? ⟨w.heap.size + 1, 3, none⟩ = some (.slice none 0 0) := by simp [hc]
            have f0 : ∀ i, w1.frozen? ⟨w.heap.size + 1, i, none⟩ = false := fun i => by simp [hf, go_sem]
            have HB : Hid (Below w.heap.size w w1) := below_then (hb0 _ _) hb1
            clear h0 hc hf hb1 hb0
            go_wp2_with (first | (go_at_call 46; refine (isKey_any _ _).mono ?_; rintro e w' ⟨rfl, rfl⟩) | (go_at_call 47; refine (isValue_any _ _).mono ?_; rintro e w' ⟨rfl, rfl⟩) | (go_at_call 48; refine (isLsn_any _ _).mono ?_; rintro e w' ⟨rfl, rfl⟩))
            refine (implWith_own n K V key val b off cap _ HM.out hcap HA.out).mono ?_
            rintro e wq ⟨a', cap', rfl, hbq, hoq⟩
            obtain ⟨s0, s1, t0, t1, t2, t3, fz⟩ := after_call' k0 k1 r0 r1 r2 r3 f0 hz hbq
            go_wp2_with fail
            refine bodyPost_ret (v := .agg #[.int .i64 0, .int .i64 idn, .int .i64 l2, .slice a' (wi K V key val n).length cap']) (by simp [results, Try.results16, go_sem, *]) rfl ?_
            refine dres_ok' E HB hbq hz hoq ?_ (by simp [World.setCell])
            repeat (first | exact Writes.refl _ _ _ | apply Writes.drew | refine Writes.setCell ?_ (by first | omega | (simp <;> omega)) (by first | omega | (simp <;> omega)) _)
        · have E : Hid (sC idn lsn n K V key val l2 = 3) := by show sC idn lsn n K V key val l2 = 3; rw [sC, if_pos h0, if_pos (.inr (.inr (by simpa using h3)))]
          have h4 : inB l2 0 1000000 = false := by simpa using h3
          go_enter Try.func16, Try.ntmps16
          go_wp2_with fail
          refine (implFault_any idn lsn n K V _ cap _ (by omega) (h.below (hb0 _ _))).mono ?_
          rintro e w1 ⟨rfl, hb1⟩
          rw [h0]
          obtain ⟨hc, hf⟩ := bcell hb1
          clear h0 h3
          go_wp2_with (first | (go_at_call 46; refine (isKey_any _ _).mono ?_; rintro e w' ⟨rfl, rfl⟩) | (go_at_call 47; refine (isValue_any _ _).mono ?_; rintro e w' ⟨rfl, rfl⟩) | (go_at_call 48; refine (isLsn_any _ _).mono ?_; rintro e w' ⟨rfl, rfl⟩))
          refine bodyPost_ret (v := .agg #[.int .i64 (3), .int .i64 (0), .int .i64 (0), .slice none 0 0]) (by simp [results, Try.results16, go_sem, hc]) rfl ?_
          refine dres_bad E ?_ (by omega)
          repeat (first | exact below_then (hb0 _ _) hb1 | refine Below.setCell ?_ (by first | omega | (simp <;> omega)) _)
      · have E : Hid (sC idn lsn n K V key val l2 = 3) := by show sC idn lsn n K V key val l2 = 3; rw [sC, if_pos h0, if_pos (.inr (.inl (by simpa using h2)))]
        have h4 : inB val 0 9999 = false := by simpa using h2
        go_enter Try.func16, Try.ntmps16
        go_wp2_with fail
        refine (implFault_any idn lsn n K V _ cap _ (by omega) (h.below (hb0 _ _))).mono ?_
        rintro e w1 ⟨rfl, hb1⟩
        rw [h0]
        obtain ⟨hc, hf⟩ := bcell hb1
        clear h0 h2
        go_wp2_with (first | (go_at_call 46; refine (isKey_any _ _).mono ?_; rintro e w' ⟨rfl, rfl⟩) | (go_at_call 47; refine (isValue_any _ _).mono ?_; rintro e w' ⟨rfl, rfl⟩) | (go_at_call 48; refine (isLsn_any _ _).mono ?_; rintro e w' ⟨rfl, rfl⟩))
        refine bodyPost_ret (v := .agg #[.int .i64 (3), .int .i64 (0), .int .i64 (0), .slice none 0 0]) (by simp [results, Try.results16, go_sem, hc]) rfl ?_
        refine dres_bad E ?_ (by omega)
        repeat (first | exact below_then (hb0 _ _) hb1 | refine Below.setCell ?_ (by first | omega | (simp <;> omega)) _)
    · have E : Hid (sC idn lsn n K V key val l2 = 3) := by show sC idn lsn n K V key val l2 = 3; rw [sC, if_pos h0, if_pos (.inl (by simpa using h1))]
      have h4 : inB key 0 31 = false := by simpa using h1
      go_enter Try.func16, Try.ntmps16
      go_wp2_with fail
      refine (implFault_any idn lsn n K V _ cap _ (by omega) (h.below (hb0 _ _))).mono ?_
      rintro e w1 ⟨rfl, hb1⟩
      rw [h0]
      obtain ⟨hc, hf⟩ := bcell hb1
      clear h0 h1
      go_wp2_with (first | (go_at_call 46; refine (isKey_any _ _).mono ?_; rintro e w' ⟨rfl, rfl⟩) | (go_at_call 47; refine (isValue_any _ _).mono ?_; rintro e w' ⟨rfl, rfl⟩) | (go_at_call 48; refine (isLsn_any _ _).mono ?_; rintro e w' ⟨rfl, rfl⟩))
      refine bodyPost_ret (v := .agg #[.int .i64 (3), .int .i64 (0), .int .i64 (0), .slice none 0 0]) (by simp [results, Try.results16, go_sem, hc]) rfl ?_
      refine dres_bad E ?_ (by omega)
      repeat (first | exact below_then (hb0 _ _) hb1 | refine Below.setCell ?_ (by first | omega | (simp <;> omega)) _)
  · have E : Hid (sC idn lsn n K V key val l2 = pf idn lsn n K V) := by show sC idn lsn n K V key val l2 = pf idn lsn n K V; rw [sC, if_neg h0]
    have hd : (pf idn lsn n K V != 0) = true := by simpa using h0
    have HNZ : Hid (pf idn lsn n K V ≠ 0) := h0
    go_enter Try.func16, Try.ntmps16
    go_wp2_with fail
    refine (implFault_any idn lsn n K V _ cap _ (by omega) (h.below (hb0 _ _))).mono ?_
    rintro e w1 ⟨rfl, hb1⟩
    obtain ⟨hc, hf⟩ := bcell hb1
    generalize pf idn lsn n K V = c at *
    clear h0
    go_wp2_with fail
    refine bodyPost_ret (v := .agg #[.int .i64 (c), .int .i64 (0), .int .i64 (0), .slice none 0 0]) (by simp [results, Try.results16, go_sem, hc]) rfl ?_
    refine dres_bad E ?_ HNZ.out
    repeat (first | exact below_then (hb0 _ _) hb1 | refine Below.setCell ?_ (by first | omega | (simp <;> omega)) _)
end Go.Proofs.Ytnhkjdcbaphfcaa
