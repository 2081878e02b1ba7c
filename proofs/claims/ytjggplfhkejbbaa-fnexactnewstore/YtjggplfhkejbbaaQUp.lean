/- impl.UnpackPage. -/
import Derived.Test.YtjggplfhkejbbaaQSum
namespace Go.Proofs.Ytjggplfhkejbbaa
open Go.RowKit Go.Deep
set_option linter.unusedVariables false
set_option maxRecDepth 20000

theorem num_shift (z : Nat → Int) (lo : Nat) : ∀ m, num (fun j => z (lo + j)) 0 m = num z lo m
  | 0 => rfl
  | m + 1 => by simp only [num, num_shift z lo m, Nat.zero_add]
theorem readNum (lo m : Nat) (z : Nat → Int) (b off cap : Nat) (w : World) (hm : m ≤ 4) (hz : ∀ j, j < m → 0 ≤ z (lo + j) ∧ z (lo + j) ≤ 255) (hc : ∀ i, i < m → w.cell? ⟨b, off + i, none⟩ = some (.int .u8 (z (lo + i)))) :
    Calls Try.prog 127 #[.slice (some ⟨b, off, none⟩) m cap] w fun e w' => e = .returned (.int .i64 (num z lo m)) ∧ w' = w := by
  have h := readNumber_some m (fun j => z (lo + j)) b off cap w hm hz hc
  rw [num_shift] at h
  exact h
/-- So many bytes from a place on. -/
def BA (w : World) (b off n : Nat) (z : Nat → Int) : Prop := ∀ i, i < n → w.cell? ⟨b, off + i, none⟩ = some (.int .u8 (z i))
theorem BA.alloc {w : World} {b off n : Nat} {z : Nat → Int} (h : BA w b off n z) (o : Obj) : BA (w.alloc o) b off n z := fun i hi => cell_alloc (h i hi) o
theorem BA.below {w w' : World} {b off n : Nat} {z : Nat → Int} (h : BA w b off n z) (hb : Below w.heap.size w w') : BA w' b off n z := fun i hi => cell_below (h i hi) hb
theorem BA.set {w : World} {b off n B j : Nat} {v : Value} {z : Nat → Int} (h : BA w b off n z) (hb : b ≠ B) : BA (w.setCell ⟨B, j, none⟩ v) b off n z := fun i hi => by
  rw [World.cell?_setCell_other _ _ _ _ (by intro e; exact hb (congrArg Addr.block e).symm)]; exact h i hi
theorem BA.from {w : World} {b off n lo m : Nat} {z : Nat → Int} (h : BA w b off n z) (hl : lo + m ≤ n) : ∀ i, i < m → w.cell? ⟨b, off + lo + i, none⟩ = some (.int .u8 (z (lo + i))) := fun i hi => by
  rw [Nat.add_assoc]; exact h (lo + i) (by omega)
theorem BA.from0 {w : World} {b off n m : Nat} {z : Nat → Int} (h : BA w b off n z) (hl : m ≤ n) : ∀ i, i < m → w.cell? ⟨b, off + i, none⟩ = some (.int .u8 (z (0 + i))) := fun i hi => by
  rw [Nat.zero_add]; exact h i (by omega)
theorem readNumG {off m cap : Nat} (z : Nat → Int) (b o n : Nat) (w : World) (h : BA w b o n z) (hz : Byt n z) (hm : m ≤ 4) (ho : o ≤ off) (ho2 : off + m ≤ o + n) :
    Calls Try.prog 127 #[.slice (some ⟨b, off, none⟩) m cap] w fun e w' => e = .returned (.int .i64 (num z (off - o) m)) ∧ w' = w :=
  readNum (off - o) m z b off cap w hm (fun j hj => hz _ (by omega)) fun i hi => by
    have := h (off - o + i) (by omega)
    rwa [show o + (off - o + i) = off + i by omega] at this
def rpN (z : Nat → Int) : Nat := if z 5 ≤ 12 then (z 5).toNat else 12
def rpK (z : Nat → Int) (i : Nat) : Int := num z (6 + 3 * i) 1
def rpV (z : Nat → Int) (i : Nat) : Int := num z (7 + 3 * i) 2
/-- An answer that is a page. -/
def PgR (idn lsn : Int) (n : Nat) (K V : Nat → Int) (w : World) (e : Ending) (w' : World) : Prop :=
  ∃ a cap, e = .returned (.agg #[.int .i64 idn, .int .i64 lsn, .slice a n cap]) ∧ Below w.heap.size w w' ∧ Own w' w.heap.size w'.heap.size a n K V
theorem info131 : (Try.prog.info? 124).map (fun i => (i.zero, i.size, i.bytes)) = some (some (.agg #[.int .i64 0, .int .i64 0]), 2, 16) := by kernel_rfl
/-- Where readPage's loop stands. -/
structure Rp (z : Nat → Int) (w W0 wr : World) (v : Value) (k : Nat) : Prop where
  below : Below w.heap.size w wr
  hsz : w.heap.size + 2 ≤ wr.heap.size
  c0 : wr.cell? ⟨w.heap.size + 1, 0, none⟩ = some (.int .i64 (num z 0 1))
  c1 : wr.cell? ⟨w.heap.size + 1, 1, none⟩ = some (.int .i64 (num z 1 4))
  c2 : wr.cell? ⟨w.heap.size + 1, 2, none⟩ = some v
  fz : ∀ i, wr.frozen? ⟨w.heap.size + 1, i, none⟩ = false
  res : wr.heap[w.heap.size]? = W0.heap[w.heap.size]?
  own : wr.ownsRow (w.heap.size + 2) 124 2 v k (cl (lst (rpK z) (rpV z) 0 k))
theorem lst_succ (K V : Nat → Int) (k : Nat) : lst K V 0 (k + 1) = lst K V 0 k ++ [(K k, V k)] := by simp [lst, List.range_succ]
theorem Rp.step {z : Nat → Int} {w W0 wr w1 : World} {v v' : Value} {k : Nat} {c c' : Array Value} {t t' : TypeId} (h : Rp z w W0 wr v k)
    (ho : w1.ownsRow (w.heap.size + 2) 124 2 v' (k + 1) (cl (lst (rpK z) (rpV z) 0 k) ++ [.int .i64 (rpK z k), .int .i64 (rpV z k)])) (hg : ((wr.alloc (.cells c t)).alloc (.cells c' t')).drew.grownBy w1 v.ownBlock) :
    (w1.cell? ⟨w.heap.size + 1, 2, none⟩ = some v ∧ w1.frozen? ⟨w.heap.size + 1, 2, none⟩ = false) ∧ Rp z w W0 (w1.setCell ⟨w.heap.size + 1, 2, none⟩ v') v' (k + 1) := by
  have hsz := h.hsz
  have hs2 : ((wr.alloc (.cells c t)).alloc (.cells c' t')).drew.heap.size = wr.heap.size + 2 := by show ((wr.alloc (.cells c t)).alloc (.cells c' t')).heap.size = _; rw [World.size_alloc, World.size_alloc]
  have hne : ∀ q, q < w.heap.size + 2 → some q ≠ v.ownBlock := fun q hq e => by have := (h.own.lt q e.symm).1; omega
  have hblk : ∀ q, q < w.heap.size + 2 → w1.heap[q]? = wr.heap[q]? := fun q hq => by
    rw [hg.block q (by rw [hs2]; omega) (hne q hq)]
    show ((wr.alloc (.cells c t)).alloc (.cells c' t')).heap[q]? = _
    rw [Below.heap_alloc _ _ _ (by rw [World.size_alloc]; omega), Below.heap_alloc _ _ _ (by omega)]
  have hcell : ∀ i, w1.cell? ⟨w.heap.size + 1, i, none⟩ = wr.cell? ⟨w.heap.size + 1, i, none⟩ := fun i => World.cell?_of_block (w := wr) (a := ⟨w.heap.size + 1, i, none⟩) (hblk (w.heap.size + 1) (by omega))
  have hfz : ∀ i, w1.frozen? ⟨w.heap.size + 1, i, none⟩ = false := fun i => (World.frozen?_of_block (w := wr) (a := ⟨w.heap.size + 1, i, none⟩) (hblk (w.heap.size + 1) (by omega))).trans (h.fz i)
  have hB : Below w.heap.size w w1 := by
    refine ((h.below.alloc (by omega) _).alloc (by rw [World.size_alloc]; omega) _).drew.grown hg (by rw [hs2]; omega) fun q hq => by have := (h.own.lt q hq).1; omega
  refine ⟨⟨(hcell 2).trans h.c2, hfz 2⟩, hB.setCell (p := ⟨w.heap.size + 1, 2, none⟩) (by show w.heap.size ≤ w.heap.size + 1; omega) _, ?_, ?_, ?_, ?_, ?_, ?_, ?_⟩
  · have := hg.size; rw [hs2] at this; show w.heap.size + 2 ≤ (w1.setCell _ _).heap.size; simp [World.setCell]; omega
  · rw [setO (by omega)]; exact (hcell 0).trans h.c0
  · rw [setO (by omega)]; exact (hcell 1).trans h.c1
  · exact setS ((hcell 2).trans h.c2)
  · intro i; rw [World.frozen?_setCell]; exact hfz i
  · rw [Below.heap_setCell _ _ _ _ (by show w.heap.size ≠ w.heap.size + 1; omega)]; exact (hblk _ (by omega)).trans h.res
  · rw [lst_succ, cl_app]
    exact ownsRow_setCell_below (a := ⟨w.heap.size + 1, 2, none⟩) ho (by show w.heap.size + 1 < w.heap.size + 2; omega) _
theorem pg_end {z : Nat → Int} {w wr w7 : World} {a : Option Addr} {cap n : Nat} (ho : wr.ownsRow (w.heap.size + 2) 124 2 (.slice a n cap) n (cl (lst (rpK z) (rpV z) 0 n))) (hB : Below w.heap.size w wr) (hw : Writes w.heap.size (w.heap.size + 1) wr w7) (hs : w7.heap.size = wr.heap.size) :
    Below w.heap.size w w7 ∧ Own w7 w.heap.size w7.heap.size a n (rpK z) (rpV z) := by
  refine ⟨Writes.below hB hw (Nat.le_refl _), ?_⟩
  have hl : (lst (rpK z) (rpV z) 0 n).length = n := lst_len _ _ _ _
  obtain ⟨a', cap', e, h⟩ := own_of_row (L := lst (rpK z) (rpV z) 0 n) (by rw [hl]; exact ho)
  rw [hl] at h e
  simp only [Value.slice.injEq] at e
  obtain ⟨rfl, -, rfl⟩ := e
  have h2 := (h.writes hw (.inr (by omega))).congr (K' := rpK z) (V' := rpV z) (fun i hi => by have := (lst_get (rpK z) (rpV z) 0 n i hi).1; rwa [Nat.zero_add] at this) (fun i hi => by have := (lst_get (rpK z) (rpV z) 0 n i hi).2; rwa [Nat.zero_add] at this)
  rw [hs]
  exact h2.wide (by omega) (Nat.le_refl _) (by omega)
theorem two_i64 (x y : Int) : ∀ u ∈ [Value.int .i64 x, Value.int .i64 y], u.oneCell' = true := by intro u hu; simp at hu; rcases hu with rfl | rfl <;> rfl
theorem slice_of_cells {w : World} {base n : Nat} {v : Value} {xs : List Value} (h : w.ownsRow base 124 2 v n xs) : ∃ a cap, v = .slice a n cap := by
  rcases h.2 with ⟨rfl, h0⟩ | ⟨g, cap, cur, rfl, _⟩
  · exact ⟨none, 0, by rw [h0]⟩
  · exact ⟨_, cap, rfl⟩
theorem pgb_48 {idn lsn : Int} {n : Nat} {K V : Nat → Int} (h : n ≤ 12) : (pgb idn lsn n K V).length = 48 := by
  simp only [pgb, fld, bdy, List.length_append, List.length_replicate, hd_len, cb_len, nb_len]; omega
theorem szPage_x (id lsn : Int) (n : Nat) (a : Option Addr) (cap : Nat) (x : Int) (w : World) (hn : n ≤ 9223372036854775807) (h0 : 0 ≤ x) (h1 : x ≤ 1048576) :
    Calls Try.prog 44 #[.agg #[.int .i64 id, .int .i64 lsn, .slice a n cap], .int .i64 x] w fun e w' => Below w.heap.size w w' ∧ ∃ r : Int, e = .returned (.int .i64 r) ∧ (r = -1 ∨ (0 ≤ r ∧ r = x - n)) := by
  by_cases h : x - (n : Int) < 0
  · go_enter Try.func44, Try.ntmps44
    go_wp2
    go_ret
    exact ⟨below_new _ _, _, rfl, .inl rfl⟩
  · go_enter Try.func44, Try.ntmps44
    go_wp2
    go_ret
    exact ⟨below_new _ _, _, rfl, .inr ⟨by omega, rfl⟩⟩
def zL (z : Nat → Int) (n : Nat) : List Int := (List.range n).map z
theorem zL_len (z : Nat → Int) (n : Nat) : (zL z n).length = n := by simp [zL]
theorem zL_get (z : Nat → Int) (n i : Nat) (h : i < n) : (zL z n).getD i 0 = z i := by simp [zL, h]
theorem zL_byt {z : Nat → Int} {n : Nat} (h : Byt n z) : ∀ x ∈ zL z n, 0 ≤ x ∧ x ≤ 255 := fun x hx => by
  simp only [zL, List.mem_map, List.mem_range] at hx
  obtain ⟨i, hi, rfl⟩ := hx
  exact h i hi
/-- The page that 48 bytes tell, packed again. -/
def again (z : Nat → Int) : List Int := pgb (num z 0 1) (num z 1 4) (rpN z) (rpK z) (rpV z)
def againF (z : Nat → Int) : Int := pf (num z 0 1) (num z 1 4) (rpN z) (rpK z) (rpV z)
/-- The code of UnpackPage. -/
def upc (z : Nat → Int) (n : Nat) : Int := if n ≠ 48 then 1 else if num z 46 2 ≠ sumB z 46 then 6 else if againF z = 0 ∧ again z = zL z 48 then 0 else 5
/-- An answer that is a page, or a code. -/
def PRes (c idn lsn : Int) (n : Nat) (K V : Nat → Int) (w : World) (e : Ending) (w' : World) : Prop :=
  ∃ a cap, e = .returned (.agg #[.int .i64 c, .int .i64 (if c = 0 then idn else 0), .int .i64 (if c = 0 then lsn else 0), .slice a (if c = 0 then n else 0) cap]) ∧ Below w.heap.size w w' ∧ Own w' w.heap.size w'.heap.size a (if c = 0 then n else 0) K V
theorem pres_bad {c idn lsn : Int} {n : Nat} {K V : Nat → Int} {w w' : World} (hb : Below w.heap.size w w') (hc : c ≠ 0) : PRes c idn lsn n K V w (.returned (.agg #[.int .i64 c, .int .i64 0, .int .i64 0, .slice none 0 0])) w' := by
  rw [PRes]
  simp only [if_neg hc]
  exact ⟨none, 0, rfl, hb, Nat.le_refl _, .inl rfl⟩
theorem pres_ok {c idn lsn : Int} {n : Nat} {K V : Nat → Int} {w wq w' : World} {a : Option Addr} {cap lo hi : Nat} (hc : c = 0) (hB : Below w.heap.size w wq) (hlo : w.heap.size + 1 ≤ lo) (ho : Own wq lo hi a n K V) (hw : Writes w.heap.size (w.heap.size + 1) wq w') (hs : w'.heap.size = wq.heap.size) :
    PRes c idn lsn n K V w (.returned (.agg #[.int .i64 0, .int .i64 idn, .int .i64 lsn, .slice a n cap])) w' := by
  rw [PRes, hc]
  simp only [if_true]
  refine ⟨a, cap, rfl, Writes.below hB hw (Nat.le_refl _), ?_⟩
  have h0 := ho.1
  rw [hs]
  exact (ho.writes hw (.inr hlo)).wide (by omega) h0 (by omega)
theorem rpN_le (z : Nat → Int) : rpN z ≤ 12 := by unfold rpN; split <;> omega
theorem pgb_byt (idn lsn : Int) (n : Nat) (K V : Nat → Int) : BytL (pgb idn lsn n K V) := (fld_byt _ _ _ _ _).app (nb_byt _ _)
theorem sumS {b off m cap : Nat} (z : Nat → Int) (n : Nat) (w : World) (h : BA w b off n z) (hz : Byt n z) (hm : m ≤ n) (hn : n ≤ 1000) :
    Calls Try.prog 128 #[.slice (some ⟨b, off, none⟩) m cap] w fun e w' => e = .returned (.int .i64 (sumB z m)) ∧ w' = w :=
  implSum_some m z b off cap w (by omega) (fun i hi => hz i (by omega)) (fun i hi => h i (by omega))
end Go.Proofs.Ytjggplfhkejbbaa
