/- CellOf: the walks of spec.CellOf and impl.CellOf. -/
import Derived.Test.YtfmpmhppjikadaaGreatQFnd
namespace Go.Proofs.YtfmpmhppjikadaaGreat
open Go.RowKit Go.Deep
set_option linter.unusedVariables false
set_option maxRecDepth 20000

def coC (idn lsn : Int) (n : Nat) (K V : Nat → Int) (key : Int) : Int := if pf idn lsn n K V = 0 then (if has K key n = true then 0 else 4) else pf idn lsn n K V
def coV (idn lsn : Int) (n : Nat) (K V : Nat → Int) (key : Int) : Int := if pf idn lsn n K V = 0 then (if has K key n = true then V (pl K key n) else 0) else 0

theorem ret_two {a b c d : Int} (h1 : a = c) (h2 : b = d) : Ending.returned (.agg #[.int .i64 a, .int .i64 b]) = .returned (.agg #[.int .i64 c, .int .i64 d]) := by rw [h1, h2]
theorem cell_of_at {w : World} {a : Option Addr} {n p : Nat} {K V : Nat → Int} (h : CellsAt w a n K V) (hp : p < n) : ∃ b off, a = some ⟨b, off, none⟩ ∧ w.cell? ⟨b, off + p * 2 + 1, none⟩ = some (.int .i64 (V p)) ∧ w.cell? ⟨b, off + p * 2, none⟩ = some (.int .i64 (K p)) := by
  rcases h with h | ⟨b, off, rfl, _, hk, hv⟩
  · omega
  · exact ⟨b, off, rfl, hv p hp, hk p hp⟩

set_option maxHeartbeats 1000000 in
theorem specCellOf_any (idn lsn : Int) (n : Nat) (K V : Nat → Int) (a : Option Addr) (cap : Nat) (key : Int) (w : World) (hn : n ≤ 140737488355328) (h : CellsAt w a n K V) :
    Calls Tryz.prog 73 #[.agg #[.int .i64 idn, .int .i64 lsn, .slice a n cap], .int .i64 key] w fun e w' =>
      e = .returned (.agg #[.int .i64 (coC idn lsn n K V key), .int .i64 (coV idn lsn n K V key)]) ∧ Below w.heap.size w w' := by
  have hb0 : ∀ o1 o2, Below w.heap.size w ((w.alloc o1).alloc o2) := fun o1 o2 => ((Below.refl _ _).alloc (Nat.le_refl _) _).alloc (by simp) _
  by_cases h0 : pf idn lsn n K V = 0
  · have g := good_of h0
    have hf0 := fnd_eq (key := key) g.grise
    by_cases hh : has K key n = true
    · have E1 : Hid (coC idn lsn n K V key = 0) := by show coC idn lsn n K V key = 0; rw [coC, if_pos h0, if_pos hh]
      have E2 : Hid (coV idn lsn n K V key = V (pl K key n)) := by show coV idn lsn n K V key = V (pl K key n); rw [coV, if_pos h0, if_pos hh]
      rw [if_pos hh] at hf0
      have hp := (has_iff.1 hh).1
      obtain ⟨b, off, rfl, hcv, -⟩ := cell_of_at h hp
      generalize pl K key n = p at *
      clear hh g
      have hp' : (p : Int) < (n : Int) := by omega
      go_enter Tryz.func73, Tryz.ntmps73
      go_wp2_with fail
      refine (specFault_any idn lsn n K V _ cap _ hn (h.below (hb0 _ _))).mono ?_
      rintro e w1 ⟨rfl, hb1⟩
      rw [h0]
      have hcv1 := cell_below (cell_below hcv (hb0 _ _)) hb1
      have HA : Hid (CellsAt w1 _ n K V) := (h.below (hb0 _ _)).below hb1
      obtain ⟨hc, hf⟩ := bcell hb1
      clear hcv h0
      go_wp2_with fail
      refine (find_any n K V key _ cap _ hn HA.out).mono ?_
      rintro e w2 ⟨rfl, rfl⟩
      rw [hf0]
      clear hf0
      go_wp2_with fail
      refine bodyPost_ret (v := .agg #[.int .i64 (0), .int .i64 (V p)]) (by simp [results, Tryz.results73, go_sem, hc]) rfl ⟨?_, ?_⟩
      · exact ret_two E1.out.symm E2.out.symm
      · repeat (first | exact below_then (hb0 _ _) hb1 | refine Below.setCell ?_ (by first | omega | (simp <;> omega)) _)
    · have E1 : Hid (coC idn lsn n K V key = 4) := by show coC idn lsn n K V key = 4; rw [coC, if_pos h0, if_neg hh]
      have E2 : Hid (coV idn lsn n K V key = 0) := by show coV idn lsn n K V key = 0; rw [coV, if_pos h0, if_neg hh]
      rw [if_neg hh] at hf0
      clear hh g
      go_enter Tryz.func73, Tryz.ntmps73
      go_wp2_with fail
      refine (specFault_any idn lsn n K V _ cap _ hn (h.below (hb0 _ _))).mono ?_
      rintro e w1 ⟨rfl, hb1⟩
      rw [h0]
      have HA : Hid (CellsAt w1 _ n K V) := (h.below (hb0 _ _)).below hb1
      obtain ⟨hc, hf⟩ := bcell hb1
      clear h0
      go_wp2_with fail
      refine (find_any n K V key _ cap _ hn HA.out).mono ?_
      rintro e w2 ⟨rfl, rfl⟩
      rw [hf0]
      clear hf0
      go_wp2_with fail
      refine bodyPost_ret (v := .agg #[.int .i64 (4), .int .i64 (0)]) (by simp [results, Tryz.results73, go_sem, hc]) rfl ⟨?_, ?_⟩
      · exact ret_two E1.out.symm E2.out.symm
      · repeat (first | exact below_then (hb0 _ _) hb1 | refine Below.setCell ?_ (by first | omega | (simp <;> omega)) _)
  · have E1 : Hid (coC idn lsn n K V key = pf idn lsn n K V) := by show coC idn lsn n K V key = pf idn lsn n K V; rw [coC, if_neg h0]
    have E2 : Hid (coV idn lsn n K V key = 0) := by show coV idn lsn n K V key = 0; rw [coV, if_neg h0]
    have hd : (pf idn lsn n K V != 0) = true := by simpa using h0
    go_enter Tryz.func73, Tryz.ntmps73
    go_wp2_with fail
    refine (specFault_any idn lsn n K V _ cap _ hn (h.below (hb0 _ _))).mono ?_
    rintro e w1 ⟨rfl, hb1⟩
    obtain ⟨hc, hf⟩ := bcell hb1
    generalize pf idn lsn n K V = c at *
    clear h0
    go_wp2_with fail
    refine bodyPost_ret (v := .agg #[.int .i64 (c), .int .i64 (0)]) (by simp [results, Tryz.results73, go_sem, hc]) rfl ⟨?_, ?_⟩
    · exact ret_two E1.out.symm E2.out.symm
    · repeat (first | exact below_then (hb0 _ _) hb1 | refine Below.setCell ?_ (by first | omega | (simp <;> omega)) _)
def voC (n : Nat) (K : Nat → Int) (key : Int) : Int := if has K key n = true then 0 else 4
def voV (n : Nat) (K V : Nat → Int) (key : Int) : Int := if has K key n = true then V (pl K key n) else 0
set_option maxHeartbeats 1000000 in
theorem valueOf_any (n : Nat) (K V : Nat → Int) (a : Option Addr) (cap : Nat) (key : Int) (w : World) (hn : n ≤ 140737488355328) (h : CellsAt w a n K V) :
    Calls Tryz.prog 135 #[.slice a n cap, .int .i64 key] w fun e w' =>
      e = .returned (.agg #[.int .i64 (voC n K key), .int .i64 (voV n K V key)]) ∧ Below w.heap.size w w' := by
  have hb0 : ∀ o, Below w.heap.size w (w.alloc o) := fun o => below_new _ _
  by_cases hh : has K key n = true
  · have E1 : Hid (voC n K key = 0) := by show voC n K key = 0; rw [voC, if_pos hh]
    have E2 : Hid (voV n K V key = V (pl K key n)) := by show voV n K V key = V (pl K key n); rw [voV, if_pos hh]
    have hp := (has_iff.1 hh).1
    obtain ⟨b, off, rfl, hcv, -⟩ := cell_of_at h hp
    have hp' : (pl K key n : Int) < (n : Int) := by omega
    have hbl : b < w.heap.size := Go.block_lt_of_cell hcv
    have hbb : ¬ b = w.heap.size := by omega
    have hbb2 : ¬ w.heap.size = b := by omega
    have HA : Hid (∀ w', Below w.heap.size w w' → CellsAt w' (some ⟨b, off, none⟩) n K V) := fun w' hw => h.below hw
    have hcv1 : ∀ o, (w.alloc o).cell? ⟨b, off + pl K key n * 2 + 1, none⟩ = some (.int .i64 (V (pl K key n))) := fun o => cell_alloc hcv o
    clear h
    go_enter Tryz.func135, Tryz.ntmps135
    go_wp2_with fail
    refine (hasCell_any n K V key _ cap _ hn (HA.out _ (hb0 _))).mono ?_
    rintro e w2 ⟨rfl, rfl⟩
    rw [hh]
    clear hh
    go_wp2_with fail
    refine (place_any n K V key _ cap _ hn (HA.out _ (hb0 _))).mono ?_
    rintro e w3 ⟨rfl, rfl⟩
    go_wp2
    refine bodyPost_ret (v := .agg #[.int .i64 0, .int .i64 (V (pl K key n))]) (by simp [results, Tryz.results135, go_sem, *]) rfl ⟨?_, ?_⟩
    · exact ret_two E1.out.symm E2.out.symm
    · repeat (first | exact hb0 _ | apply Below.drew | refine Below.setCell ?_ (by first | omega | (simp <;> omega)) _)
  · have E1 : Hid (voC n K key = 4) := by show voC n K key = 4; rw [voC, if_neg hh]
    have E2 : Hid (voV n K V key = 0) := by show voV n K V key = 0; rw [voV, if_neg hh]
    have hh' : has K key n = false := by simpa using hh
    clear hh
    go_enter Tryz.func135, Tryz.ntmps135
    go_wp2_with fail
    refine (hasCell_any n K V key _ cap _ hn (h.below (hb0 _))).mono ?_
    rintro e w2 ⟨rfl, rfl⟩
    rw [hh']
    clear hh'
    go_wp2_with fail
    refine bodyPost_ret (v := .agg #[.int .i64 (4), .int .i64 (0)]) (by simp [results, Tryz.results135, go_sem]) rfl ⟨?_, ?_⟩
    · exact ret_two E1.out.symm E2.out.symm
    · repeat (first | exact hb0 _ | refine Below.setCell ?_ (by first | omega | (simp <;> omega)) _)
/-- laws.eqIntResult of two that are the same. -/
theorem eqIntResult_same (c v : Int) (w : World) : Calls Tryz.prog 22 #[.agg #[.int .i64 c, .int .i64 v], .agg #[.int .i64 c, .int .i64 v]] w fun e w' => e = .returned (.bool true) ∧ Below w.heap.size w w' := by
  go_enter Tryz.func22, Tryz.ntmps22
  go_wp2
  go_ret
  exact ⟨rfl, ((Below.refl _ _).alloc (Nat.le_refl _) _).alloc (by simp) _⟩
end Go.Proofs.YtfmpmhppjikadaaGreat
