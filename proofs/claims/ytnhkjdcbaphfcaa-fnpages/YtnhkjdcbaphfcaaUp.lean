/- A page read from bytes: impl.readPage. -/
import Derived.Test.YtnhkjdcbaphfcaaBh
import Derived.Test.YtnhkjdcbaphfcaaRd
namespace Go.Proofs.Ytnhkjdcbaphfcaa
open Go.RowKit Go.Deep
set_option linter.unusedVariables false
set_option maxRecDepth 20000

theorem num_shift (z : Nat → Int) (lo : Nat) : ∀ m, num (fun j => z (lo + j)) 0 m = num z lo m
  | 0 => rfl
  | m + 1 => by simp only [num, num_shift z lo m, Nat.zero_add]
theorem readNum (lo m : Nat) (z : Nat → Int) (b off cap : Nat) (w : World) (hm : m ≤ 4) (hz : ∀ j, j < m → 0 ≤ z (lo + j) ∧ z (lo + j) ≤ 255) (hc : ∀ i, i < m → w.cell? ⟨b, off + i, none⟩ = some (.int .u8 (z (lo + i)))) :
    Calls Try.prog 31 #[.slice (some ⟨b, off, none⟩) m cap] w fun e w' => e = .returned (.int .i64 (num z lo m)) ∧ w' = w := by
  have h := readNumber_some m (fun j => z (lo + j)) b off cap w hm hz hc
  rw [num_shift] at h
  exact h
/-- So many bytes from a place on. -/
def BA (w : World) (b off n : Nat) (z : Nat → Int) : Prop := ∀ i, i < n → w.cell? ⟨b, off + i, none⟩ = some (.int .u8 (z i))
theorem BA.alloc {w : World} {b off n : Nat} {z : Nat → Int} (h : BA w b off n z) (o : Obj) : BA (w.alloc o) b off n z := fun i hi => cell_alloc (h i hi) o
theorem BA.below {w w' : World} {b off n : Nat} {z : Nat → Int} (h : BA w b off n z) (hb : Below w.heap.size w w') : BA w' b off n z := fun i hi => cell_below (h i hi) hb
theorem BA.set {w : World} {b off n B j : Nat} {v : Value} {z : Nat → Int} (h : BA w b off n z) (hb : b ≠ B) : BA (w.setCell ⟨B, j, none⟩ v) b off n z := fun i hi => by
  rw [World.cell?_setCell_other _ _ _ _ (by intro e; exact hb (congrArg Addr.block e).symm)]; exact h i hi
theorem BA.from {w : World} {b off n lo m : Nat} {z : Nat → Int} (h : BA w b off n z) (hl : lo + m ≤ n) : ∀ i, i < m → w.cell? ⟨b, off + lo + i, none⟩ = some (.int .u8 (z (lo + i))) := fun i hi => by
  rw [Nat.add_assoc]; exact h (lo + i) (by omega)
theorem BA.from0 {w : World} {b off n m : Nat} {z : Nat → Int} (h : BA w b off n z) (hl : m ≤ n) : ∀ i, i < m → w.cell? ⟨b, off + i, none⟩ = some (.int .u8 (z (0 + i))) := fun i hi => by
  rw [Nat.zero_add]; exact h i (by omega)
theorem readNumG {off m cap : Nat} (z : Nat → Int) (b o n : Nat) (w : World) (h : BA w b o n z) (hz : Byt n z) (hm : m ≤ 4) (ho : o ≤ off) (ho2 : off + m ≤ o + n) :
    Calls Try.prog 31 #[.slice (some ⟨b, off, none⟩) m cap] w fun e w' => e = .returned (.int .i64 (num z (off - o) m)) ∧ w' = w :=
  readNum (off - o) m z b off cap w hm (fun j hj => hz _ (by omega)) fun i hi => by
    have := h (off - o + i) (by omega)
    rwa [show o + (off - o + i) = off + i by omega] at this
def rpN (z : Nat → Int) : Nat := if z 5 ≤ 12 then (z 5).toNat else 12
def rpK (z : Nat → Int) (i : Nat) : Int := num z (6 + 3 * i) 1
def rpV (z : Nat → Int) (i : Nat) : Int := num z (7 + 3 * i) 2
/-- An answer that is a page. -/
def PgR (idn lsn : Int) (n : Nat) (K V : Nat → Int) (w : World) (e : Ending) (w' : World) : Prop :=
  ∃ a cap, e = .returned (.agg #[.int .i64 idn, .int .i64 lsn, .slice a n cap]) ∧ Below w.heap.size w w' ∧ Own w' w.heap.size w'.heap.size a n K V
theorem info131 : (Try.prog.info? 45).map (fun i => (i.zero, i.size, i.bytes)) = some (some (.agg #[.int .i64 0, .int .i64 0]), 2, 16) := by kernel_rfl
/-- Where readPage's loop stands. -/
structure Rp (z : Nat → Int) (w W0 wr : World) (v : Value) (k : Nat) : Prop where
  below : Below w.heap.size w wr
  hsz : w.heap.size + 2 ≤ wr.heap.size
  c0 : wr.cell? ⟨w.heap.size + 1, 0, none⟩ = some (.int .i64 (num z 0 1))
  c1 : wr.cell? ⟨w.heap.size + 1, 1, none⟩ = some (.int .i64 (num z 1 4))
  c2 : wr.cell? ⟨w.heap.size + 1, 2, none⟩ = some v
  fz : ∀ i, wr.frozen? ⟨w.heap.size + 1, i, none⟩ = false
  res : wr.heap[w.heap.size]? = W0.heap[w.heap.size]?
  own : wr.ownsRow (w.heap.size + 2) 45 2 v k (cl (lst (rpK z) (rpV z) 0 k))
theorem lst_succ (K V : Nat → Int) (k : Nat) : lst K V 0 (k + 1) = lst K V 0 k ++ [(K k, V k)] := by simp [lst, List.range_succ]
theorem Rp.step {z : Nat → Int} {w W0 wr w1 : World} {v v' : Value} {k : Nat} {c c' : Array Value} {t t' : TypeId} (h : Rp z w W0 wr v k)
    (ho : w1.ownsRow (w.heap.size + 2) 45 2 v' (k + 1) (cl (lst (rpK z) (rpV z) 0 k) ++ [.int .i64 (rpK z k), .int .i64 (rpV z k)])) (hg : ((wr.alloc (.cells c t)).alloc (.cells c' t')).drew.grownBy w1 v.ownBlock) :
    (w1.cell? ⟨w.heap.size + 1, 2, none⟩ = some v ∧ w1.frozen? ⟨w.heap.size + 1, 2, none⟩ = false) ∧ Rp z w W0 (w1.setCell ⟨w.heap.size + 1, 2, none⟩ v') v' (k + 1) := by
  have hsz := h.hsz
  have hs2 : ((wr.alloc (.cells c t)).alloc (.cells c' t')).drew.heap.size = wr.heap.size + 2 := by show ((wr.alloc (.cells c t)).alloc (.cells c' t')).heap.size = _; rw [World.size_alloc, World.size_alloc]
  have hne : ∀ q, q < w.heap.size + 2 → some q ≠ v.ownBlock := fun q hq e => by have := (h.own.lt q e.symm).1; omega
  have hblk : ∀ q, q < w.heap.size + 2 → w1.heap[q]? = wr.heap[q]? := fun q hq => by
    rw [hg.block q (by rw [hs2]; omega) (hne q hq)]
    show ((wr.alloc (.cells c t)).alloc (.cells c' t')).heap[q]? = _
    rw [Below.heap_alloc _ _ _ (by rw [World.size_alloc]; omega), Below.heap_alloc _ _ _ (by omega)]
  have hcell : ∀ i, w1.cell? ⟨w.heap.size + 1, i, none⟩ = wr.cell? ⟨w.heap.size + 1, i, none⟩ := fun i => World.cell?_of_block (w := wr) (a := ⟨w.heap.size + 1, i, none⟩) (hblk (w.heap.size + 1) (by omega))
  have hfz : ∀ i, w1.frozen? ⟨w.heap.size + 1, i, none⟩ = false := fun i => (World.frozen?_of_block (w := wr) (a := ⟨w.heap.size + 1, i, none⟩) (hblk (w.heap.size + 1) (by omega))).trans (h.fz i)
  have hB : Below w.heap.size w w1 := by
    refine ((h.below.alloc (by omega) _).alloc (by rw [World.size_alloc]; omega) _).drew.grown hg (by rw [hs2]; omega) fun q hq => by have := (h.own.lt q hq).1; omega
  refine ⟨⟨(hcell 2).trans h.c2, hfz 2⟩, hB.setCell (p := ⟨w.heap.size + 1, 2, none⟩) (by show w.heap.size ≤ w.heap.size + 1; omega) _, ?_, ?_, ?_, ?_, ?_, ?_, ?_⟩
  · have := hg.size; rw [hs2] at this; show w.heap.size + 2 ≤ (w1.setCell _ _).heap.size; simp [World.setCell]; omega
  · rw [setO (by omega)]; exact (hcell 0).trans h.c0
  · rw [setO (by omega)]; exact (hcell 1).trans h.c1
  · exact setS ((hcell 2).trans h.c2)
  · intro i; rw [World.frozen?_setCell]; exact hfz i
  · rw [Below.heap_setCell _ _ _ _ (by show w.heap.size ≠ w.heap.size + 1; omega)]; exact (hblk _ (by omega)).trans h.res
  · rw [lst_succ, cl_app]
    exact ownsRow_setCell_below (a := ⟨w.heap.size + 1, 2, none⟩) ho (by show w.heap.size + 1 < w.heap.size + 2; omega) _
theorem pg_end {z : Nat → Int} {w wr w7 : World} {a : Option Addr} {cap n : Nat} (ho : wr.ownsRow (w.heap.size + 2) 45 2 (.slice a n cap) n (cl (lst (rpK z) (rpV z) 0 n))) (hB : Below w.heap.size w wr) (hw : Writes w.heap.size (w.heap.size + 1) wr w7) (hs : w7.heap.size = wr.heap.size) :
    Below w.heap.size w w7 ∧ Own w7 w.heap.size w7.heap.size a n (rpK z) (rpV z) := by
  refine ⟨Writes.below hB hw (Nat.le_refl _), ?_⟩
  have hl : (lst (rpK z) (rpV z) 0 n).length = n := lst_len _ _ _ _
  obtain ⟨a', cap', e, h⟩ := own_of_row (L := lst (rpK z) (rpV z) 0 n) (by rw [hl]; exact ho)
  rw [hl] at h e
  simp only [Value.slice.injEq] at e
  obtain ⟨rfl, -, rfl⟩ := e
  have h2 := (h.writes hw (.inr (by omega))).congr (K' := rpK z) (V' := rpV z) (fun i hi => by have := (lst_get (rpK z) (rpV z) 0 n i hi).1; rwa [Nat.zero_add] at this) (fun i hi => by have := (lst_get (rpK z) (rpV z) 0 n i hi).2; rwa [Nat.zero_add] at this)
  rw [hs]
  exact h2.wide (by omega) (Nat.le_refl _) (by omega)
theorem two_i64 (x y : Int) : ∀ u ∈ [Value.int .i64 x, Value.int .i64 y], u.oneCell' = true := by intro u hu; simp at hu; rcases hu with rfl | rfl <;> rfl
theorem slice_of_cells {w : World} {base n : Nat} {v : Value} {xs : List Value} (h : w.ownsRow base 45 2 v n xs) : ∃ a cap, v = .slice a n cap := by
  rcases h.2 with ⟨rfl, h0⟩ | ⟨g, cap, cur, rfl, _⟩
  · exact ⟨none, 0, by rw [h0]⟩
  · exact ⟨_, cap, rfl⟩
set_option maxHeartbeats 4000000 in
theorem readPage_some (z : Nat → Int) (b off cap : Nat) (w : World) (hcap : 48 ≤ cap) (hbl : b < w.heap.size) (hz : Byt 48 z) (hc : BA w b off 48 z) :
    Calls Try.prog 33 #[.slice (some ⟨b, off, none⟩) 48 cap] w (PgR (num z 0 1) (num z 1 4) (rpN z) (rpK z) (rpV z) w) := by
  have hb0 : ∀ o1 o2, Below w.heap.size w ((w.alloc o1).alloc o2) := fun o1 o2 => ((Below.refl _ _).alloc (Nat.le_refl _) _).alloc (by simp) _
  have c1 : ¬ cap = 1 := by omega
  have c5 : ¬ cap = 5 := by omega
  have c6 : ¬ cap = 6 := by omega
  have d1 : (1 : Int) ≤ (cap : Int) := by omega
  have d5 : (5 : Int) ≤ (cap : Int) := by omega
  have d6 : (6 : Int) ≤ (cap : Int) := by omega
  have HZ : Hid (Byt 48 z) := hz
  have hbn : b ≠ w.heap.size := by omega
  have hbn2 : b ≠ w.heap.size + 1 := by omega
  have hA := hc.alloc (.cells #[.int .i64 0, .int .i64 0, .slice none 0 0] 27)
  have hbd : 0 ≤ num z 5 1 ∧ num z 5 1 ≤ 255 := by have := hz 5 (by decide); simp [num]; exact this
  have e5 : num z 5 1 = z 5 := by simp [num]
  obtain ⟨i0, hi, hz0, hz1, hz2⟩ := info_parts info131
  have HII : Hid (Try.prog.info? 45 = some i0 ∧ i0.zero = some (.agg #[.int .i64 0, .int .i64 0]) ∧ i0.size = 2 ∧ i0.bytes = 16) := ⟨hi, hz0, hz1, hz2⟩
  clear hz hi hz0 hz1 hz2
  go_enter Try.func33, Try.ntmps33
  go_wp2
  have hA0 : BA (w.alloc (.cells #[.int .i64 0, .int .i64 0, .slice none 0 0] 27)).drew b off 48 z := hA
  go_region_held3 (fun w' => BA w' b off 48 z) (first | assumption | exact BA.alloc (by assumption) _ | exact ((BA.set (by assumption) hbn2).set hbn2).set hbn2 | go_keep)
    (first | (go_at_call 31; refine (readNumG z b off 48 _ (by assumption) HZ.out (by decide) (by omega) (by omega)).mono ?_; rintro e w' ⟨rfl, rfl⟩; simp only [Nat.add_sub_cancel_left, Nat.sub_self]))
  all_goals
    have hB1 : BA ((w.alloc (.cells #[.int .i64 0, .int .i64 0, .slice none 0 0] 27)).alloc (.cells #[.int .i64 (num z 0 1), .int .i64 (num z 1 4), .slice none 0 0] 27)).drew b off 48 z := by assumption
    go_wp2_with fail
    refine (readNumG z b off 48 _ (by assumption) HZ.out (by decide) (by omega) (by omega)).mono ?_
    rintro e w' ⟨rfl, rfl⟩
    simp only [Nat.add_sub_cancel_left]
    clear hB1 hA hA0
    by_cases h12 : num z 5 1 ≤ 12
    · obtain ⟨n, hn⟩ : ∃ n : Nat, num z 5 1 = n := ⟨(num z 5 1).toNat, by omega⟩
      have HN : Hid (rpN z = n) := by show rpN z = n; unfold rpN; rw [← e5, if_pos h12]; omega
      have hn12 : n ≤ 12 := by omega
      have hn13 : (n : Int) ≤ 12 := by omega
      rw [hn]
      clear hn h12 hbd e5
      go_wp2_with fail
      go_loopw [5, 6, 21] (fun r _ i wr => ∃ k rl rc : Nat, k ≤ n ∧ i = .int .i64 k ∧ r = .slice (some ⟨b, off + (6 + 3 * k), none⟩) rl rc ∧ rl + 3 * k = 42 ∧ rc + 3 * k + 6 = cap ∧ ∃ v, Hid (Rp z w ((w.alloc (.cells #[.int .i64 0, .int .i64 0, .slice none 0 0] 27)).alloc (.cells #[.int .i64 (num z 0 1), .int .i64 (num z 1 4), .slice none 0 0] 27)) wr v k)) (fun _ _ i _ => n - (intOf i).toNat)
      case atStart => exact ⟨0, 42, cap - 6, by omega, rfl, rfl, by omega, by omega, .slice none 0 0, ⟨(hb0 _ _).drew, by show w.heap.size + 2 ≤ ((w.alloc (.cells #[.int .i64 0, .int .i64 0, .slice none 0 0] 27)).alloc (.cells #[.int .i64 (num z 0 1), .int .i64 (num z 1 4), .slice none 0 0] 27)).heap.size; rw [World.size_alloc, World.size_alloc]; omega, by simp, by simp, by simp, fun i => by simp, rfl, World.ownsRow_nil _ _ _ _⟩⟩
      case round =>
        obtain ⟨k, rl, rc, hk, rfl, rfl, hrl, hrc, v, HR⟩ := hrel
        by_cases hlt : k < n
        · have hlt' : (k : Int) < (n : Int) := by omega
          have e1 : (1 : Int) ≤ (rc : Int) := by omega
          have e3 : (3 : Int) ≤ (rc : Int) := by omega
          have e4 : (3 : Int) ≤ (rl : Int) := by omega
          have e5 : ¬ rc = 1 := by omega
          have e6 : ¬ rc = 3 := by omega
          have hbr : b ≠ wr.heap.size := by have := HR.out.hsz; omega
          have hBr : BA wr b off 48 z := hc.below HR.out.below
          have hBd : BA wr.drew b off 48 z := hBr
          have HKV : Hid (num z (6 + 3 * k) 1 = rpK z k ∧ num z (6 + (3 * k + 1)) 2 = rpV z k) := ⟨rfl, by show _ = num z (7 + 3 * k) 2; congr 1; omega⟩
          go_wp2_with fail
          go_region_held3 (fun w' => BA w' b off 48 z) (first | assumption | exact BA.alloc (by assumption) _ | exact (BA.set (by assumption) hbr).set hbr | go_keep)
            (first | (go_at_call 31; refine (readNumG z b off 48 _ (by assumption) HZ.out (by decide) (by omega) (by omega)).mono ?_; rintro e w' ⟨rfl, rfl⟩; simp only [Nat.add_assoc, Nat.add_sub_cancel_left]))
          all_goals
            rw [HKV.out.1, HKV.out.2]
            have hc2 := HR.out.c2
            have hc2a := fun o : Obj => cell_alloc hc2 o
            have hc2b := fun o o' : Obj => cell_alloc (hc2a o) o'
            have HI : Hid ((wr.alloc (.cells #[.int .i64 (rpK z k), .int .i64 (rpV z k)] 45)).ownsRow (w.heap.size + 2) 45 2 v k (cl (lst (rpK z) (rpV z) 0 k))) := HR.out.own.alloc _
            clear hBr hBd
            go_wp2_with (at_builtin; refine wpList_append_own _ rfl (.tmp 31) (.tmp 33) 25 rfl (w.heap.size + 2) 45 i0 (.agg #[.int .i64 0, .int .i64 0]) 2 16 Try.underlying25 HII.out.1 HII.out.2.1 HII.out.2.2.1 HII.out.2.2.2 rfl (by decide) v k (cl (lst (rpK z) (rpV z) 0 k)) rfl (HI.out.alloc _) ⟨wr.heap.size + 1, 0, none⟩ 1 1 [.int .i64 (rpK z k), .int .i64 (rpV z k)] rfl rfl (cell_two_new2 _ _ _ _ _) (two_i64 _ _) ?c3 ?c4 ?c5 ?_)
            case c3 => unfold maxLen; omega
            case c4 => omega
            case c5 => have := HR.out.hsz; simp; omega
            intro v1 w1 ho1 hg1 _
            obtain ⟨a1, cp1, rfl⟩ := slice_of_cells ho1
            obtain ⟨⟨s2, sf⟩, hR1⟩ := HR.out.step ho1 hg1
            have HR1 : Hid (Rp z w ((w.alloc (.cells #[.int .i64 0, .int .i64 0, .slice none 0 0] 27)).alloc (.cells #[.int .i64 (num z 0 1), .int .i64 (num z 1 4), .slice none 0 0] 27)) (w1.setCell ⟨w.heap.size + 1, 2, none⟩ (.slice a1 (k + 1) cp1)) (.slice a1 (k + 1) cp1) (k + 1)) := hR1
            clear ho1 hg1 hR1 hc2 hc2a hc2b HI
            go_wp2_with fail
            go_roundw
            case rel => exact ⟨k + 1, rl - 3, rc - 3, hlt, by go_num, by rw [show off + (6 + 3 * (k + 1)) = off + (6 + 3 * k) + 3 by omega], by omega, by omega, _, HR1⟩
            case measure => simp [intOf]; omega
        · have hkn : k = n := by omega
          subst hkn
          obtain ⟨a, cp, rfl⟩ := slice_of_cells HR.out.own
          have c0 := HR.out.c0
          have c1' := HR.out.c1
          have c2 := HR.out.c2
          have hrc : ∀ i x, ((w.alloc (.cells #[.int .i64 0, .int .i64 0, .slice none 0 0] 27)).alloc (.cells #[.int .i64 (num z 0 1), .int .i64 (num z 1 4), .slice none 0 0] 27)).cell? ⟨w.heap.size, i, none⟩ = some x → wr.cell? ⟨w.heap.size, i, none⟩ = some x := fun i x hx => (World.cell?_of_block (w := ((w.alloc (.cells #[.int .i64 0, .int .i64 0, .slice none 0 0] 27)).alloc (.cells #[.int .i64 (num z 0 1), .int .i64 (num z 1 4), .slice none 0 0] 27))) (a := ⟨w.heap.size, i, none⟩) HR.out.res).trans hx
          have r0 := hrc 0 (.int .i64 0) (by simp)
          have r1 := hrc 1 (.int .i64 0) (by simp)
          have r2 := hrc 2 (.slice none 0 0) (by simp)
          have rf : ∀ i, wr.frozen? ⟨w.heap.size, i, none⟩ = false := fun i => (World.frozen?_of_block (w := ((w.alloc (.cells #[.int .i64 0, .int .i64 0, .slice none 0 0] 27)).alloc (.cells #[.int .i64 (num z 0 1), .int .i64 (num z 1 4), .slice none 0 0] 27))) (a := ⟨w.heap.size, i, none⟩) HR.out.res).trans (by simp)
          clear hrc
          go_wp2_with fail
          refine bodyPost_ret (v := .agg #[.int .i64 (num z 0 1), .int .i64 (num z 1 4), .slice a k cp]) (by simp [results, Try.results33, go_sem, *]) rfl ?_
          rw [HN.out]
          refine ⟨a, cp, rfl, ?_⟩
          refine pg_end HR.out.own HR.out.below ?_ (by simp [World.setCell])
          repeat (first | exact Writes.refl _ _ _ | apply Writes.drew | refine Writes.setCell ?_ (by first | omega | (simp <;> omega)) (by first | omega | (simp <;> omega)) _)
    · have HN : Hid (rpN z = 12) := by show rpN z = 12; unfold rpN; rw [← e5, if_neg h12]
      go_wp2_with fail
      go_loopw [5, 6, 21] (fun r _ i wr => ∃ k rl rc : Nat, k ≤ 12 ∧ i = .int .i64 k ∧ r = .slice (some ⟨b, off + (6 + 3 * k), none⟩) rl rc ∧ rl + 3 * k = 42 ∧ rc + 3 * k + 6 = cap ∧ ∃ v, Hid (Rp z w ((w.alloc (.cells #[.int .i64 0, .int .i64 0, .slice none 0 0] 27)).alloc (.cells #[.int .i64 (num z 0 1), .int .i64 (num z 1 4), .slice none 0 0] 27)) wr v k)) (fun _ _ i _ => 12 - (intOf i).toNat)
      case atStart => exact ⟨0, 42, cap - 6, by omega, rfl, rfl, by omega, by omega, .slice none 0 0, ⟨(hb0 _ _).drew, by show w.heap.size + 2 ≤ ((w.alloc (.cells #[.int .i64 0, .int .i64 0, .slice none 0 0] 27)).alloc (.cells #[.int .i64 (num z 0 1), .int .i64 (num z 1 4), .slice none 0 0] 27)).heap.size; rw [World.size_alloc, World.size_alloc]; omega, by simp, by simp, by simp, fun i => by simp, rfl, World.ownsRow_nil _ _ _ _⟩⟩
      case round =>
        obtain ⟨k, rl, rc, hk, rfl, rfl, hrl, hrc, v, HR⟩ := hrel
        by_cases hlt : k < 12
        · have hlt' : (k : Int) < (12 : Int) := by omega
          have e1 : (1 : Int) ≤ (rc : Int) := by omega
          have e3 : (3 : Int) ≤ (rc : Int) := by omega
          have e4 : (3 : Int) ≤ (rl : Int) := by omega
          have e5 : ¬ rc = 1 := by omega
          have e6 : ¬ rc = 3 := by omega
          have hbr : b ≠ wr.heap.size := by have := HR.out.hsz; omega
          have hBr : BA wr b off 48 z := hc.below HR.out.below
          have hBd : BA wr.drew b off 48 z := hBr
          have HKV : Hid (num z (6 + 3 * k) 1 = rpK z k ∧ num z (6 + (3 * k + 1)) 2 = rpV z k) := ⟨rfl, by show _ = num z (7 + 3 * k) 2; congr 1; omega⟩
          go_wp2_with fail
          go_region_held3 (fun w' => BA w' b off 48 z) (first | assumption | exact BA.alloc (by assumption) _ | exact (BA.set (by assumption) hbr).set hbr | go_keep)
            (first | (go_at_call 31; refine (readNumG z b off 48 _ (by assumption) HZ.out (by decide) (by omega) (by omega)).mono ?_; rintro e w' ⟨rfl, rfl⟩; simp only [Nat.add_assoc, Nat.add_sub_cancel_left]))
          all_goals
            rw [HKV.out.1, HKV.out.2]
            have hc2 := HR.out.c2
            have hc2a := fun o : Obj => cell_alloc hc2 o
            have hc2b := fun o o' : Obj => cell_alloc (hc2a o) o'
            have HI : Hid ((wr.alloc (.cells #[.int .i64 (rpK z k), .int .i64 (rpV z k)] 45)).ownsRow (w.heap.size + 2) 45 2 v k (cl (lst (rpK z) (rpV z) 0 k))) := HR.out.own.alloc _
            clear hBr hBd
            go_wp2_with (at_builtin; refine wpList_append_own _ rfl (.tmp 31) (.tmp 33) 25 rfl (w.heap.size + 2) 45 i0 (.agg #[.int .i64 0, .int .i64 0]) 2 16 Try.underlying25 HII.out.1 HII.out.2.1 HII.out.2.2.1 HII.out.2.2.2 rfl (by decide) v k (cl (lst (rpK z) (rpV z) 0 k)) rfl (HI.out.alloc _) ⟨wr.heap.size + 1, 0, none⟩ 1 1 [.int .i64 (rpK z k), .int .i64 (rpV z k)] rfl rfl (cell_two_new2 _ _ _ _ _) (two_i64 _ _) ?c3 ?c4 ?c5 ?_)
            case c3 => unfold maxLen; omega
            case c4 => omega
            case c5 => have := HR.out.hsz; simp; omega
            intro v1 w1 ho1 hg1 _
            obtain ⟨a1, cp1, rfl⟩ := slice_of_cells ho1
            obtain ⟨⟨s2, sf⟩, hR1⟩ := HR.out.step ho1 hg1
            have HR1 : Hid (Rp z w ((w.alloc (.cells #[.int .i64 0, .int .i64 0, .slice none 0 0] 27)).alloc (.cells #[.int .i64 (num z 0 1), .int .i64 (num z 1 4), .slice none 0 0] 27)) (w1.setCell ⟨w.heap.size + 1, 2, none⟩ (.slice a1 (k + 1) cp1)) (.slice a1 (k + 1) cp1) (k + 1)) := hR1
            clear ho1 hg1 hR1 hc2 hc2a hc2b HI
            go_wp2_with fail
            go_roundw
            case rel => exact ⟨k + 1, rl - 3, rc - 3, hlt, by go_num, by rw [show off + (6 + 3 * (k + 1)) = off + (6 + 3 * k) + 3 by omega], by omega, by omega, _, HR1⟩
            case measure => simp [intOf]; omega
        · have hkn : k = 12 := by omega
          subst hkn
          obtain ⟨a, cp, rfl⟩ := slice_of_cells HR.out.own
          have c0 := HR.out.c0
          have c1' := HR.out.c1
          have c2 := HR.out.c2
          have hrc : ∀ i x, ((w.alloc (.cells #[.int .i64 0, .int .i64 0, .slice none 0 0] 27)).alloc (.cells #[.int .i64 (num z 0 1), .int .i64 (num z 1 4), .slice none 0 0] 27)).cell? ⟨w.heap.size, i, none⟩ = some x → wr.cell? ⟨w.heap.size, i, none⟩ = some x := fun i x hx => (World.cell?_of_block (w := ((w.alloc (.cells #[.int .i64 0, .int .i64 0, .slice none 0 0] 27)).alloc (.cells #[.int .i64 (num z 0 1), .int .i64 (num z 1 4), .slice none 0 0] 27))) (a := ⟨w.heap.size, i, none⟩) HR.out.res).trans hx
          have r0 := hrc 0 (.int .i64 0) (by simp)
          have r1 := hrc 1 (.int .i64 0) (by simp)
          have r2 := hrc 2 (.slice none 0 0) (by simp)
          have rf : ∀ i, wr.frozen? ⟨w.heap.size, i, none⟩ = false := fun i => (World.frozen?_of_block (w := ((w.alloc (.cells #[.int .i64 0, .int .i64 0, .slice none 0 0] 27)).alloc (.cells #[.int .i64 (num z 0 1), .int .i64 (num z 1 4), .slice none 0 0] 27))) (a := ⟨w.heap.size, i, none⟩) HR.out.res).trans (by simp)
          clear hrc
          go_wp2_with fail
          refine bodyPost_ret (v := .agg #[.int .i64 (num z 0 1), .int .i64 (num z 1 4), .slice a 12 cp]) (by simp [results, Try.results33, go_sem, *]) rfl ?_
          rw [HN.out]
          refine ⟨a, cp, rfl, ?_⟩
          refine pg_end HR.out.own HR.out.below ?_ (by simp [World.setCell])
          repeat (first | exact Writes.refl _ _ _ | apply Writes.drew | refine Writes.setCell ?_ (by first | omega | (simp <;> omega)) (by first | omega | (simp <;> omega)) _)
end Go.Proofs.Ytnhkjdcbaphfcaa
