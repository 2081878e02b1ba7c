/- Sectors and sheets: arrays of bytes. -/
import Derived.Test.YtldnfiadafmomaaDn
import Derived.Laws.CopyOwn
import Derived.Deep.MidRow
import Derived.Deep.WholeRow
namespace Go.Proofs.Ytldnfiadafmomaa
open Go.RowKit Go.Deep
set_option linter.unusedVariables false
set_option maxRecDepth 20000

/-- n bytes, as values. -/
def bvs (z : Nat → Int) (n : Nat) : List Value := (List.range n).map fun i => .int .u8 (z i)
theorem bvs_len (z : Nat → Int) (n : Nat) : (bvs z n).length = n := by simp [bvs]
theorem bvs_size (z : Nat → Int) (n : Nat) : (bvs z n).toArray.size = n := by simp [bvs]
theorem bvs_get (z : Nat → Int) (n j : Nat) (v : Value) (h : (bvs z n)[j]? = some v) : j < n ∧ v = .int .u8 (z j) := by
  have hj : j < n := by have := (List.getElem?_eq_some_iff.1 h).1; rwa [bvs_len] at this
  refine ⟨hj, ?_⟩
  simp [bvs, hj] at h
  exact h.symm
theorem bvs_one (z : Nat → Int) (n : Nat) : ∀ v ∈ bvs z n, v.oneCell' = true := fun v hv => by
  obtain ⟨i, _, rfl⟩ := List.mem_map.1 hv
  rfl
theorem size5 : (Try.prog.info? 5).map (·.size) = some 1 := by kernel_rfl
theorem size144 : (Try.prog.info? 64).map (·.size) = some 16 := by kernel_rfl
theorem size147 : (Try.prog.info? 66).map (·.size) = some 48 := by kernel_rfl
theorem splice_all {α : Type} (L cs : List α) (h : L.length = cs.length) : splice L 0 cs = cs := by
  unfold splice
  rw [List.drop_of_length_le (by omega)]
  simp
def zeros (n : Nat) : List Value := List.replicate n (.int .u8 0)
theorem zeros16 : (#[.int .u8 0, .int .u8 0, .int .u8 0, .int .u8 0, .int .u8 0, .int .u8 0, .int .u8 0, .int .u8 0, .int .u8 0, .int .u8 0, .int .u8 0, .int .u8 0, .int .u8 0, .int .u8 0, .int .u8 0, .int .u8 0] : Array Value) = (zeros 16).toArray := rfl
theorem zeros_size (n : Nat) : (zeros n).toArray.size = n := by simp [zeros]
theorem zeros_get (n i : Nat) (h : i < n) : (zeros n).toArray[i]? = some (.int .u8 0) := by simp [zeros, h]
theorem there_block {w : World} {b n : Nat} {c : Array Value} {t : TypeId} (h : w.heap[b]? = some (.cells c t (0, 0))) (hn : n ≤ c.size) : w.there b 0 n := fun j hj => by
  refine ⟨?_, by simp [World.frozen?, h]⟩
  rw [Nat.zero_add]
  simp [World.cell?, h]
  omega
theorem range_block {w : World} {b : Nat} {cs : List Value} {t : TypeId} {fr : Nat × Nat} (h : w.heap[b]? = some (.cells cs.toArray t fr)) : w.rangeAt b 0 cs := fun j v hv => by
  rw [Nat.zero_add]
  simp [World.cell?, h, hv]
theorem blk_last2 (w : World) (o1 o2 : Obj) : ((w.alloc o1).alloc o2).heap[w.heap.size + 1]? = some o2 := by
  have h := heap_alloc_last (w.alloc o1) o2
  rw [World.size_alloc] at h
  exact h
theorem Writes.setCells {lo hi b : Nat} {w : World} (h1 : lo ≤ b) (h2 : b < hi) : ∀ (vs : List Value) (o : Nat) (w' : World), Writes lo hi w w' → Writes lo hi w (w'.setCells b o vs)
  | [], _, _, h => h
  | v :: r, o, w', h => by
    rw [World.setCells]
    exact Writes.setCells h1 h2 r (o + 1) _ (h.setCell (p := ⟨b, o, none⟩) h1 h2 v)
theorem size_setCells (b : Nat) : ∀ (vs : List Value) (o : Nat) (w : World), (w.setCells b o vs).heap.size = w.heap.size
  | [], _, _ => rfl
  | v :: r, o, w => by rw [World.setCells, size_setCells b r]; simp [World.setCell]
theorem results_one {fn : Func} {p : Tmp} {ty : TypeId} (h : fn.results = #[.cell p ty]) (tmps : Array Value) (w : World) (a : Addr) (v : Value) (hp : tmps.getD p undef = .pointer (some a)) (hl : (loadVar ty a).run Try.prog w = .ok v w) :
    (results fn tmps).run Try.prog w = .ok v w := by
  have hp' : tmps[p]?.getD undef = .pointer (some a) := by simpa using hp
  simp [results, h, hp', asAddr, hl]
set_option maxHeartbeats 400000 in
theorem sectorOf_any (n : Nat) (z : Nat → Int) (a : Option Addr) (cap : Nat) (w : World) (hn : 16 ≤ n) (h : BytesAt w a n z) :
    Calls Try.prog 44 #[.slice a n cap] w fun e w' => e = .returned (.agg (bvs z 16).toArray) ∧ Below w.heap.size w w' := by
  obtain ⟨b, off, rfl, hbl, hc⟩ : ∃ b off, a = some ⟨b, off, none⟩ ∧ b < w.heap.size ∧ ∀ i, i < n → w.cell? ⟨b, off + i, none⟩ = some (.int .u8 (z i)) := by
    rcases h with h | h
    · omega
    · exact h
  have hb0 : ∀ o1 o2, Below w.heap.size w ((w.alloc o1).alloc o2) := fun o1 o2 => (((Below.refl _ _).alloc (Nat.le_refl _) _).alloc (by simp) _)
  have HC : Hid (∀ i, i < n → w.cell? ⟨b, off + i, none⟩ = some (.int .u8 (z i))) := hc
  clear h hc
  go_enter Try.func44, Try.ntmps44
  go_wp2_with (refine wpList_copy_splice (by rfl) (.tmp 4) (.tmp 5) 55 55 (by rfl) 5 Try.underlying55 size5 (some ⟨w.heap.size + 1, 0, none⟩) (some ⟨b, off, none⟩) 16 16 n cap (by rfl) (by rfl) (w.heap.size + 1) 0 (zeros 16) 64 ?hg (bvs z 16) ?hn ?hpos ?hfit (bvs_one _ _) (w.heap.size + 1) (w.alloc (.cells (zeros 16).toArray 64)) ?hb ?hB ?_)
  case hg => exact blk_last2 _ _ _
  case hn => rw [bvs_len]; exact (Nat.min_eq_right hn).symm
  case hpos =>
    intro _ j v hv
    obtain ⟨hj, rfl⟩ := bvs_get _ _ _ _ hv
    exact HC.out j (by omega)
  case hfit => rw [bvs_len]; decide
  case hb => exact (Below.refl _ _).alloc (by simp) _
  case hB => exact Nat.le_refl _
  intro w2 hg2 hb2
  have hg3 : w2.heap[w.heap.size + 1]? = some (.cells (bvs z 16).toArray 64 (0, 0)) := by have h := hg2.out; rw [splice_all _ _ (by rw [bvs_len]; decide)] at h; exact h
  have hg4 : w2.heap[w.heap.size]? = some (.cells (zeros 16).toArray 64 (0, 0)) := by rw [hb2.block _ (by omega)]; exact heap_alloc_last _ _
  have HR : Hid (w2.rangeAt (w.heap.size + 1) 0 (bvs z 16)) := range_block hg3
  have HT : Hid (w2.there w.heap.size 0 16) := there_block hg4 (by decide)
  have HB : Hid (Below w.heap.size w w2) := (below_new w _).trans (hb2.mono (by omega))
  clear hg2 hb2 hg3 hg4 HC
  go_wp2_with (first | (refine wpList_load_mid (by rfl) 64 (.tmp 3) (by rfl) (w.heap.size + 1) 0 (by rfl) (bvs z 16) _ HR.out Try.underlying64 rfl (by rw [size144, bvs_len]) ?_) | (refine wpList_store_mid (by rfl) 64 (.tmp 2) (.tmp 7) (by rfl) w.heap.size 0 (bvs z 16).toArray (by rfl) (by rfl) ?_ ?_ ?_ ?_))
  · simpa [bvs_len] using HT.out
  · rw [size144]; simp [bvs_len]
  · exact all_oneCell_toArray (bvs_one _ _)
  have hlv : (loadVar 64 ⟨w.heap.size, 0, none⟩).run Try.prog (w2.setCells w.heap.size 0 (bvs z 16)) = .ok (.agg (bvs z 16).toArray) (w2.setCells w.heap.size 0 (bvs z 16)) :=
    run_loadVar_mid _ _ _ 64 (bvs z 16) _ (World.rangeAt_setCells_same _ _ _ _ (by rw [bvs_len]; exact HT.out)) Try.underlying64 rfl (by rw [size144, bvs_len])
  refine bodyPost_ret (v := .agg (bvs z 16).toArray) (results_one (by rfl) _ _ _ _ (by rfl) hlv) rfl ⟨rfl, ?_⟩
  exact Writes.below HB.out (Writes.setCells (lo := w.heap.size) (hi := w.heap.size + 1) (Nat.le_refl _) (by omega) _ _ _ (Writes.refl _ _ _)) (Nat.le_refl _)
theorem row1_of_own {w : World} {base n : Nat} {v : Value} {z : Nat → Int} (h : w.ownsRow base 5 1 v n (bvs z n)) (hn : 0 < n) : ∃ g cap, v = .slice (some ⟨g, 0, none⟩) n cap ∧ base ≤ g ∧ g < w.heap.size ∧ Row1 w g 0 n z := by
  rcases h.2 with ⟨rfl, h0⟩ | ⟨g, cap, cur, rfl, hbg, hg, hnc, hcm, hcs, htake⟩
  · omega
  · have hlt : g < w.heap.size := by
      obtain ⟨hlt, _⟩ := Array.getElem?_eq_some_iff.1 hg
      exact hlt
    refine ⟨g, cap, rfl, hbg, hlt, fun i hi => ?_, fun i hi => h.frozenAt _⟩
    have := h.cellAt i (by omega)
    rw [Nat.zero_add, this]
    simp [bvs, hi]
theorem rowIs_setCells {b : Nat} {t : TypeId} {n : Nat} : ∀ (vs : List Value) (o : Nat) (w : World) (f : Nat → Value), w.rowIs b t n f → (w.setCells b o vs).rowIs b t n (fun j => if o ≤ j ∧ j < o + vs.length then vs.getD (j - o) undef else f j)
  | [], o, w, f, h => h.congr fun j _ => by rw [if_neg (by simp)]
  | v :: r, o, w, f, h => by
    rw [World.setCells]
    refine (rowIs_setCells r (o + 1) _ _ (h.set o v)).congr fun j _ => ?_
    by_cases e : j = o
    · subst e
      rw [if_neg (by omega), if_pos rfl, if_pos (by simp)]
      simp
    · by_cases c : o + 1 ≤ j ∧ j < o + 1 + r.length
      · rw [if_pos c, if_pos (by simp; omega)]
        obtain ⟨q, hq⟩ : ∃ q, j - o = q + 1 := ⟨j - o - 1, by omega⟩
        rw [hq, show j - (o + 1) = q by omega]
        simp
      · rw [if_neg c, if_neg e, if_neg (by simp; omega)]
theorem rowIs_far {w : World} {b b' o : Nat} {t : TypeId} {n : Nat} {f : Nat → Value} (vs : List Value) (h : w.rowIs b t n f) (hb : b ≠ b') : (w.setCells b' o vs).rowIs b t n f :=
  h.of_block ((Writes.setCells (lo := b') (hi := b' + 1) (Nat.le_refl _) (by omega) vs o w (Writes.refl _ _ _)).block b h.lt (by omega))
theorem row_range {w : World} {b : Nat} {t : TypeId} {n : Nat} {z : Nat → Int} (h : w.rowIs b t n (fun i => .int .u8 (z i))) : w.rangeAt b 0 (bvs z n) := fun j v hv => by
  obtain ⟨hj, rfl⟩ := bvs_get _ _ _ _ hv
  rw [Nat.zero_add]; exact h.cell hj
theorem row_there {w : World} {b : Nat} {t : TypeId} {n : Nat} {f : Nat → Value} (h : w.rowIs b t n f) {o m : Nat} (hm : o + m ≤ n) : w.there b o m := fun j hj => ⟨by rw [h.cell (by omega)]; rfl, h.frozen _⟩
/-- The first k sectors of a sheet are laid. -/
def fz (z : Nat → Int) (k i : Nat) : Int := if i < 16 * k then z i else 0
theorem bvs_getD (z : Nat → Int) (n j : Nat) (h : j < n) : (bvs z n).getD j undef = .int .u8 (z j) := by simp [bvs, h]
theorem fz_step {w : World} {b : Nat} {z : Nat → Int} {k : Nat} (hk : k < 3) (h : w.rowIs b 66 48 (fun i => .int .u8 (fz z k i))) : (w.setCells b (16 * k) (bvs (fun i => z (16 * k + i)) 16)).rowIs b 66 48 (fun i => .int .u8 (fz z (k + 1) i)) := by
  refine (rowIs_setCells _ (16 * k) w _ h).congr fun j hj => ?_
  rw [bvs_len]
  by_cases c : 16 * k ≤ j ∧ j < 16 * k + 16
  · rw [if_pos c, bvs_getD _ _ _ (by omega)]
    have : 16 * k + (j - 16 * k) = j := by omega
    simp only [fz, this]
    rw [if_pos (by omega)]
  · rw [if_neg c]
    simp only [fz]
    congr 1
    by_cases d : j < 16 * k
    · rw [if_pos d, if_pos (by omega)]
    · rw [if_neg d, if_neg (by omega)]
set_option maxHeartbeats 800000 in
theorem sheetOf_any (z : Nat → Int) (a : Option Addr) (cap : Nat) (w : World) (hcap : 48 ≤ cap) (h : BytesAt w a 48 z) :
    Calls Try.prog 37 #[.slice a 48 cap] w fun e w' => e = .returned (.agg (bvs z 48).toArray) ∧ Below w.heap.size w w' := by
  obtain ⟨b, off, rfl, hbl, hc⟩ : ∃ b off, a = some ⟨b, off, none⟩ ∧ b < w.heap.size ∧ ∀ i, i < 48 → w.cell? ⟨b, off + i, none⟩ = some (.int .u8 (z i)) := by
    rcases h with h | h
    · omega
    · exact h
  have HC : Hid (∀ i, i < 48 → w.cell? ⟨b, off + i, none⟩ = some (.int .u8 (z i))) := hc
  clear h hc
  go_enter Try.func37, Try.ntmps37
  go_wp2_with fail
  go_loopw [4, 5] (fun _ i wr => ∃ k : Nat, k ≤ 3 ∧ i = .int .i64 k ∧ Below w.heap.size w wr ∧ wr.rowIs (w.heap.size + 1) 66 48 (fun i => .int .u8 (fz z k i)) ∧ wr.rowIs w.heap.size 66 48 (fun _ => .int .u8 0)) (fun _ i _ => 3 - (intOf i).toNat)
  case atStart =>
    refine ⟨0, by omega, rfl, ((Below.refl _ _).alloc (Nat.le_refl _) _).alloc (by simp) _, ?_, ?_⟩
    · have h := World.rowIs_alloc (w.alloc (.cells (zeros 48).toArray 66)) (zeros 48).toArray 66 (fun i => .int .u8 (fz z 0 i)) (fun i hi => by
        have hi' : i < 48 := by rw [zeros_size] at hi; exact hi
        rw [zeros_get _ _ hi']; simp [fz])
      rw [World.size_alloc] at h
      exact h
    · refine World.rowIs.alloc ?_ _
      exact World.rowIs_alloc w (zeros 48).toArray 66 (fun _ => .int .u8 0) (fun i hi => by
        have hi' : i < 48 := by rw [zeros_size] at hi; exact hi
        rw [zeros_get _ _ hi'])
  case round =>
    obtain ⟨k, hk, rfl, hb, hr, hr0⟩ := hrel
    by_cases hlt : k < 3
    · have h1 : ¬ cap = 0 := by omega
      have h2 : ¬ cap = 16 := by omega
      have h3 : ¬ cap = 32 := by omega
      have hk3 : k = 0 ∨ k = 1 ∨ k = 2 := by omega
      have HR : Hid (wr.rowIs (w.heap.size + 1) 66 48 (fun i => .int .u8 (fz z k i))) := hr
      have HR0 : Hid (wr.rowIs w.heap.size 66 48 (fun _ => .int .u8 0)) := hr0
      have HB : Hid (Below w.heap.size w wr) := hb
      clear hr hr0 hb
      have HX : Hid (∀ m n', m + n' ≤ 48 → BytesAt wr (some ⟨b, off + m, none⟩) n' (fun i => z (m + i))) := fun m n' hm =>
        .inr ⟨b, off + m, rfl, by have := HB.out.size; omega, fun i hi => by
          rw [HB.out.cell (p := ⟨b, _, none⟩) hbl, Nat.add_assoc]; exact HC.out (m + i) (by omega)⟩
      rcases hk3 with rfl | rfl | rfl
      · go_wp2_with fail
        refine (sectorOf_any 48 (fun i => z (0 + i)) _ _ wr (by omega) (HX.out 0 48 (by omega))).mono ?_
        rintro e w1 ⟨rfl, hb1⟩
        have hsz := HR.out.lt
        have hsz0 := HR0.out.lt
        have HR1 : Hid (w1.rowIs (w.heap.size + 1) 66 48 (fun i => .int .u8 (fz z 0 i))) := HR.out.of_block (hb1.block _ hsz)
        have HR2 : Hid (w1.rowIs w.heap.size 66 48 (fun _ => .int .u8 0)) := HR0.out.of_block (hb1.block _ hsz0)
        have HB1 : Hid (Below w.heap.size w w1) := below_then HB.out hb1
        clear hb1 hsz hsz0
        go_wp2_with (refine wpList_store_mid (by rfl) 64 (.tmp 14) (.tmp 13) (by rfl) (w.heap.size + 1) 0 (bvs (fun i => z (0 + i)) 16).toArray (by rfl) (by rfl) ?_ ?_ ?_ ?_)
        · rw [bvs_size]; exact row_there HR1.out (by omega)
        · rw [size144, bvs_size]
        · exact all_oneCell_toArray (bvs_one _ _)
        go_roundw
        case rel =>
          refine ⟨1, by omega, rfl, ?_, fz_step (k := 0) (by omega) HR1.out, rowIs_far _ HR2.out (by omega)⟩
          exact Writes.below HB1.out (Writes.setCells (lo := w.heap.size) (hi := w.heap.size + 2) (by omega) (by omega) _ _ _ (Writes.refl _ _ _)) (Nat.le_refl _)
        case measure => simp [intOf]
      · go_wp2_with fail
        refine (sectorOf_any 32 (fun i => z (16 + i)) _ _ wr (by omega) (HX.out 16 32 (by omega))).mono ?_
        rintro e w1 ⟨rfl, hb1⟩
        have hsz := HR.out.lt
        have hsz0 := HR0.out.lt
        have HR1 : Hid (w1.rowIs (w.heap.size + 1) 66 48 (fun i => .int .u8 (fz z 1 i))) := HR.out.of_block (hb1.block _ hsz)
        have HR2 : Hid (w1.rowIs w.heap.size 66 48 (fun _ => .int .u8 0)) := HR0.out.of_block (hb1.block _ hsz0)
        have HB1 : Hid (Below w.heap.size w w1) := below_then HB.out hb1
        clear hb1 hsz hsz0
        go_wp2_with (refine wpList_store_mid (by rfl) 64 (.tmp 14) (.tmp 13) (by rfl) (w.heap.size + 1) 16 (bvs (fun i => z (16 + i)) 16).toArray (by rfl) (by rfl) ?_ ?_ ?_ ?_)
        · rw [bvs_size]; exact row_there HR1.out (by omega)
        · rw [size144, bvs_size]
        · exact all_oneCell_toArray (bvs_one _ _)
        go_roundw
        case rel =>
          refine ⟨2, by omega, rfl, ?_, fz_step (k := 1) (by omega) HR1.out, rowIs_far _ HR2.out (by omega)⟩
          exact Writes.below HB1.out (Writes.setCells (lo := w.heap.size) (hi := w.heap.size + 2) (by omega) (by omega) _ _ _ (Writes.refl _ _ _)) (Nat.le_refl _)
        case measure => simp [intOf]
      · go_wp2_with fail
        refine (sectorOf_any 16 (fun i => z (32 + i)) _ _ wr (by omega) (HX.out 32 16 (by omega))).mono ?_
        rintro e w1 ⟨rfl, hb1⟩
        have hsz := HR.out.lt
        have hsz0 := HR0.out.lt
        have HR1 : Hid (w1.rowIs (w.heap.size + 1) 66 48 (fun i => .int .u8 (fz z 2 i))) := HR.out.of_block (hb1.block _ hsz)
        have HR2 : Hid (w1.rowIs w.heap.size 66 48 (fun _ => .int .u8 0)) := HR0.out.of_block (hb1.block _ hsz0)
        have HB1 : Hid (Below w.heap.size w w1) := below_then HB.out hb1
        clear hb1 hsz hsz0
        go_wp2_with (refine wpList_store_mid (by rfl) 64 (.tmp 14) (.tmp 13) (by rfl) (w.heap.size + 1) 32 (bvs (fun i => z (32 + i)) 16).toArray (by rfl) (by rfl) ?_ ?_ ?_ ?_)
        · rw [bvs_size]; exact row_there HR1.out (by omega)
        · rw [size144, bvs_size]
        · exact all_oneCell_toArray (bvs_one _ _)
        go_roundw
        case rel =>
          refine ⟨3, by omega, rfl, ?_, fz_step (k := 2) (by omega) HR1.out, rowIs_far _ HR2.out (by omega)⟩
          exact Writes.below HB1.out (Writes.setCells (lo := w.heap.size) (hi := w.heap.size + 2) (by omega) (by omega) _ _ _ (Writes.refl _ _ _)) (Nat.le_refl _)
        case measure => simp [intOf]
    · have hkn : k = 3 := by omega
      have HR : Hid (wr.rowIs (w.heap.size + 1) 66 48 (fun i => .int .u8 (z i))) := hr.congr fun i hi => by subst hkn; simp [fz]; omega
      have HR0 : Hid (wr.rowIs w.heap.size 66 48 (fun _ => .int .u8 0)) := hr0
      have HB : Hid (Below w.heap.size w wr) := hb
      clear hr hr0 hb
      go_wp2_with (first | (refine wpList_load_mid (by rfl) 66 (.tmp 3) (by rfl) (w.heap.size + 1) 0 (by rfl) (bvs z 48) _ (row_range HR.out) Try.underlying66 rfl (by rw [size147, bvs_len]) ?_) | (refine wpList_store_mid (by rfl) 66 (.tmp 2) (.tmp 16) (by rfl) w.heap.size 0 (bvs z 48).toArray (by rfl) (by rfl) ?_ ?_ ?_ ?_))
      · rw [bvs_size]; exact row_there HR0.out (by omega)
      · rw [size147, bvs_size]
      · exact all_oneCell_toArray (bvs_one _ _)
      have hlv : (loadVar 66 ⟨w.heap.size, 0, none⟩).run Try.prog (wr.setCells w.heap.size 0 (bvs z 48)) = .ok (.agg (bvs z 48).toArray) (wr.setCells w.heap.size 0 (bvs z 48)) :=
        run_loadVar_mid _ _ _ 66 (bvs z 48) _ (World.rangeAt_setCells_same _ _ _ _ (by rw [bvs_len]; exact row_there HR0.out (by omega))) Try.underlying66 rfl (by rw [size147, bvs_len])
      refine bodyPost_ret (v := .agg (bvs z 48).toArray) (results_one (by rfl) _ _ _ _ (by rfl) hlv) rfl ⟨rfl, ?_⟩
      exact Writes.below HB.out (Writes.setCells (lo := w.heap.size) (hi := w.heap.size + 1) (Nat.le_refl _) (by omega) _ _ _ (Writes.refl _ _ _)) (Nat.le_refl _)
end Go.Proofs.Ytldnfiadafmomaa
