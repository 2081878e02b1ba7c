/- What a good disk is; answers that are disks. impl.PlaceDisk: an answer that is a disk. -/
import Derived.Test.YtjggplfhkejbbaaQDm
import Derived.Laws.CopyOwn
import Derived.Deep.MidRow
import Derived.Deep.WholeRow
import Derived.Deep.AppendLies
import Derived.Test.YtjggplfhkejbbaaQDg
namespace Go.Proofs.Ytjggplfhkejbbaa
open Go.RowKit Go.Deep
set_option linter.unusedVariables false
set_option maxRecDepth 20000

/-- n bytes, as values. -/
def bvs (z : Nat → Int) (n : Nat) : List Value := (List.range n).map fun i => .int .u8 (z i)
theorem bvs_len (z : Nat → Int) (n : Nat) : (bvs z n).length = n := by simp [bvs]
theorem bvs_size (z : Nat → Int) (n : Nat) : (bvs z n).toArray.size = n := by simp [bvs]
theorem bvs_get (z : Nat → Int) (n j : Nat) (v : Value) (h : (bvs z n)[j]? = some v) : j < n ∧ v = .int .u8 (z j) := by
  have hj : j < n := by have := (List.getElem?_eq_some_iff.1 h).1; rwa [bvs_len] at this
  refine ⟨hj, ?_⟩
  simp [bvs, hj] at h
  exact h.symm
theorem bvs_one (z : Nat → Int) (n : Nat) : ∀ v ∈ bvs z n, v.oneCell' = true := fun v hv => by
  obtain ⟨i, _, rfl⟩ := List.mem_map.1 hv
  rfl
theorem size5 : (Try.prog.info? 5).map (·.size) = some 1 := by kernel_rfl
theorem splice_all {α : Type} (L cs : List α) (h : L.length = cs.length) : splice L 0 cs = cs := by
  unfold splice
  rw [List.drop_of_length_le (by omega)]
  simp
def zeros (n : Nat) : List Value := List.replicate n (.int .u8 0)
theorem zeros16 : (#[.int .u8 0, .int .u8 0, .int .u8 0, .int .u8 0, .int .u8 0, .int .u8 0, .int .u8 0, .int .u8 0, .int .u8 0, .int .u8 0, .int .u8 0, .int .u8 0, .int .u8 0, .int .u8 0, .int .u8 0, .int .u8 0] : Array Value) = (zeros 16).toArray := rfl
theorem zeros_size (n : Nat) : (zeros n).toArray.size = n := by simp [zeros]
theorem zeros_get (n i : Nat) (h : i < n) : (zeros n).toArray[i]? = some (.int .u8 0) := by simp [zeros, h]
theorem there_block {w : World} {b n : Nat} {c : Array Value} {t : TypeId} (h : w.heap[b]? = some (.cells c t (0, 0))) (hn : n ≤ c.size) : w.there b 0 n := fun j hj => by
  refine ⟨?_, by simp [World.frozen?, h]⟩
  rw [Nat.zero_add]
  simp [World.cell?, h]
  omega
theorem range_block {w : World} {b : Nat} {cs : List Value} {t : TypeId} {fr : Nat × Nat} (h : w.heap[b]? = some (.cells cs.toArray t fr)) : w.rangeAt b 0 cs := fun j v hv => by
  rw [Nat.zero_add]
  simp [World.cell?, h, hv]
theorem blk_last2 (w : World) (o1 o2 : Obj) : ((w.alloc o1).alloc o2).heap[w.heap.size + 1]? = some o2 := by
  have h := heap_alloc_last (w.alloc o1) o2
  rw [World.size_alloc] at h
  exact h
theorem Writes.setCells {lo hi b : Nat} {w : World} (h1 : lo ≤ b) (h2 : b < hi) : ∀ (vs : List Value) (o : Nat) (w' : World), Writes lo hi w w' → Writes lo hi w (w'.setCells b o vs)
  | [], _, _, h => h
  | v :: r, o, w', h => by
    rw [World.setCells]
    exact Writes.setCells h1 h2 r (o + 1) _ (h.setCell (p := ⟨b, o, none⟩) h1 h2 v)
theorem size_setCells (b : Nat) : ∀ (vs : List Value) (o : Nat) (w : World), (w.setCells b o vs).heap.size = w.heap.size
  | [], _, _ => rfl
  | v :: r, o, w => by rw [World.setCells, size_setCells b r]; simp [World.setCell]
theorem results_one {fn : Func} {p : Tmp} {ty : TypeId} (h : fn.results = #[.cell p ty]) (tmps : Array Value) (w : World) (a : Addr) (v : Value) (hp : tmps.getD p undef = .pointer (some a)) (hl : (loadVar ty a).run Try.prog w = .ok v w) :
    (results fn tmps).run Try.prog w = .ok v w := by
  have hp' : tmps[p]?.getD undef = .pointer (some a) := by simpa using hp
  simp [results, h, hp', asAddr, hl]
theorem row1_of_own {w : World} {base n : Nat} {v : Value} {z : Nat → Int} (h : w.ownsRow base 5 1 v n (bvs z n)) (hn : 0 < n) : ∃ g cap, v = .slice (some ⟨g, 0, none⟩) n cap ∧ base ≤ g ∧ g < w.heap.size ∧ Row1 w g 0 n z := by
  rcases h.2 with ⟨rfl, h0⟩ | ⟨g, cap, cur, rfl, hbg, hg, hnc, hcm, hcs, htake⟩
  · omega
  · have hlt : g < w.heap.size := by
      obtain ⟨hlt, _⟩ := Array.getElem?_eq_some_iff.1 hg
      exact hlt
    refine ⟨g, cap, rfl, hbg, hlt, fun i hi => ?_, fun i hi => h.frozenAt _⟩
    have := h.cellAt i (by omega)
    rw [Nat.zero_add, this]
    simp [bvs, hi]
theorem rowIs_setCells {b : Nat} {t : TypeId} {n : Nat} : ∀ (vs : List Value) (o : Nat) (w : World) (f : Nat → Value), w.rowIs b t n f → (w.setCells b o vs).rowIs b t n (fun j => if o ≤ j ∧ j < o + vs.length then vs.getD (j - o) undef else f j)
  | [], o, w, f, h => h.congr fun j _ => by rw [if_neg (by simp)]
  | v :: r, o, w, f, h => by
    rw [World.setCells]
    refine (rowIs_setCells r (o + 1) _ _ (h.set o v)).congr fun j _ => ?_
    by_cases e : j = o
    · subst e
      rw [if_neg (by omega), if_pos rfl, if_pos (by simp)]
      simp
    · by_cases c : o + 1 ≤ j ∧ j < o + 1 + r.length
      · rw [if_pos c, if_pos (by simp; omega)]
        obtain ⟨q, hq⟩ : ∃ q, j - o = q + 1 := ⟨j - o - 1, by omega⟩
        rw [hq, show j - (o + 1) = q by omega]
        simp
      · rw [if_neg c, if_neg e, if_neg (by simp; omega)]
theorem rowIs_far {w : World} {b b' o : Nat} {t : TypeId} {n : Nat} {f : Nat → Value} (vs : List Value) (h : w.rowIs b t n f) (hb : b ≠ b') : (w.setCells b' o vs).rowIs b t n f :=
  h.of_block ((Writes.setCells (lo := b') (hi := b' + 1) (Nat.le_refl _) (by omega) vs o w (Writes.refl _ _ _)).block b h.lt (by omega))
theorem row_range {w : World} {b : Nat} {t : TypeId} {n : Nat} {z : Nat → Int} (h : w.rowIs b t n (fun i => .int .u8 (z i))) : w.rangeAt b 0 (bvs z n) := fun j v hv => by
  obtain ⟨hj, rfl⟩ := bvs_get _ _ _ _ hv
  rw [Nat.zero_add]; exact h.cell hj
theorem row_there {w : World} {b : Nat} {t : TypeId} {n : Nat} {f : Nat → Value} (h : w.rowIs b t n f) {o m : Nat} (hm : o + m ≤ n) : w.there b o m := fun j hj => ⟨by rw [h.cell (by omega)]; rfl, h.frozen _⟩
/-- The first k sectors of a sheet are laid. -/
def fz (z : Nat → Int) (k i : Nat) : Int := if i < 16 * k then z i else 0
theorem bvs_getD (z : Nat → Int) (n j : Nat) (h : j < n) : (bvs z n).getD j undef = .int .u8 (z j) := by simp [bvs, h]
theorem bvs_cut (z : Nat → Int) (k : Nat) (hk : k < 3) : List.take 16 (List.drop (k * 16) (bvs z 48)) = bvs (fun i => z (16 * k + i)) 16 := by
  apply List.ext_getElem?
  intro i
  by_cases h : i < 16
  · have h1 : k * 16 + i < 48 := by omega
    simp [bvs, h, h1, Nat.mul_comm]
  · have h1 : min 16 (48 - k * 16) ≤ i := by omega
    simp [bvs, h, h1]
theorem bvs_app (z : Nat → Int) (m n : Nat) : bvs z m ++ bvs (fun i => z (m + i)) n = bvs z (m + n) := by
  simp only [bvs, List.range_add, List.map_append, List.map_map]
  rfl
theorem own_below {W wq : World} {B n s : Nat} {e : TypeId} {v : Value} {xs : List Value} (h : W.ownsRow B e s v n xs) (hb : Below W.heap.size W wq) : wq.ownsRow B e s v n xs :=
  h.kept (row := none) ⟨hb.os, hb.tape, hb.output, hb.size, fun q hq _ => hb.block q hq⟩ (by cases hv : v.ownBlock <;> simp)
theorem fold_get : ∀ (l : List Value) (k : Nat) (acc : Array Value) (i : Nat), ((l.zipIdx k).foldl (fun (cs : Array Value) (p : Value × Nat) => cs.setIfInBounds p.2 p.1) acc)[i]? = if k ≤ i ∧ i < k + l.length ∧ i < acc.size then l[i - k]? else acc[i]?
  | [], k, acc, i => by rw [if_neg (by simp; omega)]; rfl
  | v :: r, k, acc, i => by
    rw [List.zipIdx_cons, List.foldl_cons, fold_get r (k + 1)]
    simp only [Array.size_setIfInBounds]
    by_cases c : k + 1 ≤ i ∧ i < k + 1 + r.length ∧ i < acc.size
    · rw [if_pos c, if_pos (by simp; omega)]
      obtain ⟨q, hq⟩ : ∃ q, i - k = q + 1 := ⟨i - k - 1, by omega⟩
      rw [hq, show i - (k + 1) = q by omega]
      rfl
    · rw [if_neg c, Array.getElem?_setIfInBounds]
      by_cases e : k = i
      · subst e
        by_cases d : k < acc.size
        · rw [if_pos rfl, if_pos d, if_pos (by simp; omega)]
          simp
        · rw [if_pos rfl, if_neg d, if_neg (by omega), Array.getElem?_eq_none (by omega)]
      · rw [if_neg e, if_neg (by simp; omega)]
theorem fold_all (c acc : Array Value) (h : c.size = acc.size) (m : Nat) (hm : m = c.size) : c.zipIdx.foldl (fun (cs : Array Value) (p : Value × Nat) => cs.setIfInBounds p.2 p.1) acc 0 m = c := by
  obtain rfl : m = c.zipIdx.size := by simp [hm]
  apply Array.ext_getElem?
  intro i
  rw [← Array.foldl_toList, Array.toList_zipIdx, fold_get]
  by_cases d : i < acc.size
  · rw [if_pos ⟨by omega, by simpa using (by omega : i < 0 + c.size), d⟩]
    simp
  · rw [if_neg (by omega), Array.getElem?_eq_none (by omega), Array.getElem?_eq_none (by omega)]
/-- The cells of n sheets. -/
def shl (Z : Nat → Nat → Int) : Nat → List Value
  | 0 => []
  | k + 1 => shl Z k ++ bvs (Z k) 48
theorem shl_len (Z : Nat → Nat → Int) : ∀ n, (shl Z n).length = n * 48
  | 0 => rfl
  | k + 1 => by simp only [shl, List.length_append, shl_len Z k, bvs_len]; omega
theorem shl_one (Z : Nat → Nat → Int) : ∀ n, ∀ v ∈ shl Z n, v.oneCell' = true
  | 0 => fun v hv => by simp [shl] at hv
  | k + 1 => fun v hv => by
    rcases List.mem_append.1 hv with h | h
    · exact shl_one Z k v h
    · exact bvs_one _ _ v h
theorem zeros48_cells : (Value.agg (zeros 48).toArray).cells.size = 48 := rfl
theorem wpList_store_new {P : Program} {ops : Array Oper} {rest : List Oper} {op : Oper} {a : Act} {w : World} {Q : Exit → Act → World → Prop} (hgd : op.guard = none) (t : TypeId) (x y : Operand) (ho : op.op = .store t x y)
    (c cs : Array Value) (hx : a.eval x = .pointer (some ⟨w.heap.size, 0, none⟩)) (hy : a.eval y = .agg cs) (hi : (P.info? t).map (·.size) = some cs.size) (hc : c.size = cs.size) (h1 : cs.all (·.oneCell') = true)
    (h : wpList P ops Q rest (a.put op.dst undef) (w.alloc (.cells cs t))) : wpList P ops Q (op :: rest) a (w.alloc (.cells c t)) :=
  wpList_plain hgd fun _ hK => by
    unfold Oper.wp execOp
    simp only [ho, hx, hy, run_storeAt_new w t c cs hi hc h1, Sem.run_bind, Sem.run_pure, Result.andThen_ok]
    exact hK _ _ h
/-- The values of k slices of bytes. -/
def slv (g : Nat → Nat) (L : Nat → Nat) (c : Nat → Nat) (k : Nat) : List Value := (List.range k).map fun i => .slice (some ⟨g i, 0, none⟩) (L i) (c i)
theorem slv_get (g L c : Nat → Nat) (k i : Nat) (h : i < k) : (slv g L c k)[i]? = some (.slice (some ⟨g i, 0, none⟩) (L i) (c i)) := by simp [slv, h]
theorem slv_succ (g L c : Nat → Nat) (k : Nat) : slv g L c (k + 1) = slv g L c k ++ [.slice (some ⟨g k, 0, none⟩) (L k) (c k)] := by simp [slv, List.range_succ]
theorem slv_congr {g g' L c c' : Nat → Nat} {k : Nat} (h1 : ∀ i, i < k → g i = g' i) (h2 : ∀ i, i < k → c i = c' i) : slv g L c k = slv g' L c' k := by
  refine List.map_congr_left fun i hi => ?_
  rw [h1 i (List.mem_range.1 hi), h2 i (List.mem_range.1 hi)]
/-- k pages were appended to an empty list, all from block 'base' on. -/
def AP (base : Nat) (wr : World) (v : Value) (k : Nat) (L : Nat → Nat) (Z : Nat → Nat → Int) : Prop :=
  ∃ g c : Nat → Nat, wr.ownsRow base 27 1 v k (slv g L c k) ∧ (∀ i j, i < k → j < k → g i = g j → i = j) ∧
    ∀ i, i < k → base ≤ g i ∧ g i < wr.heap.size ∧ v.ownBlock ≠ some (g i) ∧ Row1 wr (g i) 0 (L i) (Z i) ∧ L i ≤ c i
theorem AP.nil (base : Nat) (w : World) (L : Nat → Nat) (Z : Nat → Nat → Int) : AP base w (.slice none 0 0) 0 L Z :=
  ⟨fun _ => 0, fun _ => 0, World.ownsRow_nil _ _ _ _, fun i j h => by omega, fun i h => by omega⟩
theorem AP.below {base : Nat} {w w' : World} {v : Value} {k : Nat} {L : Nat → Nat} {Z : Nat → Nat → Int} (h : AP base w v k L Z) (hb : Below w.heap.size w w') : AP base w' v k L Z := by
  obtain ⟨g, c, ho, hj, hc⟩ := h
  refine ⟨g, c, own_below ho hb, hj, fun i hi => ?_⟩
  obtain ⟨h1, h2, h3, h4, h5⟩ := hc i hi
  exact ⟨h1, Nat.lt_of_lt_of_le h2 hb.size, h3, h4.block (hb.block _ h2), h5⟩
/-- A page that was just made is appended. -/
theorem AP.step {base G C g' cap' : Nat} {w1 w2 : World} {v : Value} {k : Nat} {L : Nat → Nat} {Z : Nat → Nat → Int} {o : Obj} {g c : Nat → Nat} (hj : ∀ i j, i < k → j < k → g i = g j → i = j)
    (hc : ∀ i, i < k → base ≤ g i ∧ g i < w1.heap.size ∧ v.ownBlock ≠ some (g i) ∧ Row1 w1 (g i) 0 (L i) (Z i) ∧ L i ≤ c i)
    (hG0 : base ≤ G) (hG1 : G < w1.heap.size) (hG2 : v.ownBlock ≠ some G) (hne : ∀ i, i < k → g i ≠ G) (hr : Row1 w1 G 0 (L k) (Z k)) (hC : L k ≤ C)
    (ho : w2.ownsRow base 27 1 (.slice (some ⟨g', 0, none⟩) (k + 1) cap') (k + 1) (slv g L c k ++ [.slice (some ⟨G, 0, none⟩) (L k) C]))
    (hg : (w1.alloc o).grownBy w2 v.ownBlock) (hl : v.ownBlock = some g' ∨ g' = w1.heap.size + 1) : AP base w2 (.slice (some ⟨g', 0, none⟩) (k + 1) cap') (k + 1) L Z := by
  have hsz : w1.heap.size + 1 ≤ w2.heap.size := by have := hg.size; rw [World.size_alloc] at this; exact this
  have keep : ∀ q, q < w1.heap.size → v.ownBlock ≠ some q → w2.heap[q]? = w1.heap[q]? := fun q hq hv => (hg.block q (by rw [World.size_alloc]; omega) (fun e => hv e.symm)).trans (Below.heap_alloc _ _ _ hq)
  have far : ∀ q, q < w1.heap.size → v.ownBlock ≠ some q → (Value.slice (some ⟨g', 0, none⟩) (k + 1) cap').ownBlock ≠ some q := fun q hq hv e => by
    simp only [Value.ownBlock, Option.some.injEq] at e
    rcases hl with hl | hl
    · exact hv (by rw [hl, e])
    · omega
  refine ⟨fun i => if i < k then g i else G, fun i => if i < k then c i else C, ?_, fun i j hi hj' e => ?_, fun i hi => ?_⟩
  · rw [slv_succ]
    simp only [Nat.lt_irrefl, if_false]
    rw [slv_congr (g' := g) (c' := c) (fun i hi => by simp [hi]) (fun i hi => by simp [hi])]
    exact ho
  · by_cases c1 : i < k <;> by_cases c2 : j < k <;> simp only [c1, c2, if_true, if_false] at e
    · exact hj i j c1 c2 e
    · exact absurd e (hne i c1)
    · exact absurd e.symm (hne j c2)
    · omega
  · by_cases c1 : i < k
    · simp only [c1, if_true]
      obtain ⟨h1, h2, h3, h4, h5⟩ := hc i c1
      exact ⟨h1, by omega, far _ h2 h3, h4.block (keep _ h2 h3), h5⟩
    · have : i = k := by omega
      subst this
      simp only [Nat.lt_irrefl, if_false]
      exact ⟨hG0, by omega, far _ hG1 hG2, hr.block (keep _ hG1 hG2), hC⟩
theorem AP.own {base : Nat} {w : World} {v : Value} {n : Nat} {L : Nat → Nat} {Z : Nat → Nat → Int} (h : AP base w v n L Z) : ∃ a cap, v = .slice a n cap ∧ n ≤ cap ∧ OwnP w base w.heap.size a n L Z := by
  obtain ⟨g, c, hown, hj, hc⟩ := h
  by_cases h0 : n = 0
  · subst h0
    rcases hown.2 with ⟨rfl, _⟩ | ⟨q, cap, cur, rfl, _, _, hcap, _⟩
    · exact ⟨none, 0, rfl, Nat.le_refl _, Nat.le_refl _, .inl rfl⟩
    · exact ⟨_, cap, rfl, hcap, Nat.le_refl _, .inl rfl⟩
  · rcases hown.2 with ⟨rfl, h1⟩ | ⟨q, cap, cur, rfl, hbq, hq, hcap, _⟩
    · omega
    · have hlt : q < w.heap.size := by
        obtain ⟨hlt, _⟩ := Array.getElem?_eq_some_iff.1 hq
        exact hlt
      refine ⟨_, cap, rfl, hcap, Nat.le_refl _, .inr ⟨q, 0, rfl, hbq, hlt, g, fun _ => 0, c, hj, fun i hi => ?_⟩⟩
      obtain ⟨h1, h2, h3, h4, h5⟩ := hc i hi
      refine ⟨fun e => h3 (by simp [Value.ownBlock, e]), h1, h2, ?_, h4, h5⟩
      rw [Nat.zero_add, hown.cellAt i (by omega), slv_get _ _ _ _ _ hi]
/-- The cells of one loose write, and of k of them. -/
def lv3 (p t : Int) (g n c : Nat) : List Value := [.int .i64 p, .int .i64 t, .slice (some ⟨g, 0, none⟩) n c]
def llv (P T : Nat → Int) (g L c : Nat → Nat) : Nat → List Value
  | 0 => []
  | k + 1 => llv P T g L c k ++ lv3 (P k) (T k) (g k) (L k) (c k)
theorem llv_len (P T : Nat → Int) (g L c : Nat → Nat) : ∀ k, (llv P T g L c k).length = k * 3
  | 0 => rfl
  | k + 1 => by simp only [llv, List.length_append, llv_len P T g L c k, lv3, List.length_cons, List.length_nil]; omega
theorem llv_get (P T : Nat → Int) (g L c : Nat → Nat) : ∀ k i q, i < k → q < 3 → (llv P T g L c k)[i * 3 + q]? = (lv3 (P i) (T i) (g i) (L i) (c i))[q]?
  | 0, i, q, h, _ => by omega
  | k + 1, i, q, h, hq => by
    simp only [llv]
    by_cases e : i = k
    · subst e
      rw [List.getElem?_append_right (by rw [llv_len]; omega), llv_len]
      congr 1; omega
    · rw [List.getElem?_append_left (by rw [llv_len]; omega)]
      exact llv_get P T g L c k i q (by omega) hq
theorem llv_congr {P T P' T' : Nat → Int} {g g' L L' c c' : Nat → Nat} : ∀ {k : Nat}, (∀ i, i < k → P i = P' i) → (∀ i, i < k → T i = T' i) → (∀ i, i < k → g i = g' i) → (∀ i, i < k → L i = L' i) → (∀ i, i < k → c i = c' i) → llv P T g L c k = llv P' T' g' L' c' k
  | 0, _, _, _, _, _ => rfl
  | k + 1, h1, h2, h3, h4, h5 => by
    simp only [llv]
    rw [llv_congr (k := k) (fun i hi => h1 i (by omega)) (fun i hi => h2 i (by omega)) (fun i hi => h3 i (by omega)) (fun i hi => h4 i (by omega)) (fun i hi => h5 i (by omega)), h1 k (by omega), h2 k (by omega), h3 k (by omega), h4 k (by omega), h5 k (by omega)]
theorem lv3_one {p t : Int} {g n c : Nat} : ∀ u ∈ lv3 p t g n c, u.oneCell' = true := fun u hu => by
  simp [lv3] at hu
  rcases hu with rfl | rfl | rfl <;> rfl
/-- k loose writes were appended to an empty list, all from block 'base' on. -/
def AL (base : Nat) (wr : World) (v : Value) (k : Nat) (P T : Nat → Int) (L : Nat → Nat) (Z : Nat → Nat → Int) : Prop :=
  ∃ g c : Nat → Nat, wr.ownsRow base 125 3 v k (llv P T g L c k) ∧ (∀ i j, i < k → j < k → g i = g j → i = j) ∧
    ∀ i, i < k → base ≤ g i ∧ g i < wr.heap.size ∧ v.ownBlock ≠ some (g i) ∧ Row1 wr (g i) 0 (L i) (Z i) ∧ L i ≤ c i
theorem AL.nil (base : Nat) (w : World) (P T : Nat → Int) (L : Nat → Nat) (Z : Nat → Nat → Int) : AL base w (.slice none 0 0) 0 P T L Z :=
  ⟨fun _ => 0, fun _ => 0, World.ownsRow_nil _ _ _ _, fun i j h => by omega, fun i h => by omega⟩
theorem AL.below {base : Nat} {w w' : World} {v : Value} {k : Nat} {P T : Nat → Int} {L : Nat → Nat} {Z : Nat → Nat → Int} (h : AL base w v k P T L Z) (hb : Below w.heap.size w w') : AL base w' v k P T L Z := by
  obtain ⟨g, c, ho, hj, hc⟩ := h
  refine ⟨g, c, own_below ho hb, hj, fun i hi => ?_⟩
  obtain ⟨h1, h2, h3, h4, h5⟩ := hc i hi
  exact ⟨h1, Nat.lt_of_lt_of_le h2 hb.size, h3, h4.block (hb.block _ h2), h5⟩
/-- A page that was just made is appended. -/
theorem AL.step {base G C g' cap' : Nat} {w1 w2 : World} {v : Value} {k : Nat} {P T : Nat → Int} {L : Nat → Nat} {Z : Nat → Nat → Int} {o : Obj} {g c : Nat → Nat} (hj : ∀ i j, i < k → j < k → g i = g j → i = j)
    (hc : ∀ i, i < k → base ≤ g i ∧ g i < w1.heap.size ∧ v.ownBlock ≠ some (g i) ∧ Row1 w1 (g i) 0 (L i) (Z i) ∧ L i ≤ c i)
    (hG0 : base ≤ G) (hG1 : G < w1.heap.size) (hG2 : v.ownBlock ≠ some G) (hne : ∀ i, i < k → g i ≠ G) (hr : Row1 w1 G 0 (L k) (Z k)) (hC : L k ≤ C)
    (ho : w2.ownsRow base 125 3 (.slice (some ⟨g', 0, none⟩) (k + 1) cap') (k + 1) (llv P T g L c k ++ lv3 (P k) (T k) G (L k) C))
    (hg : (w1.alloc o).grownBy w2 v.ownBlock) (hl : v.ownBlock = some g' ∨ g' = w1.heap.size + 1) : AL base w2 (.slice (some ⟨g', 0, none⟩) (k + 1) cap') (k + 1) P T L Z := by
  have hsz : w1.heap.size + 1 ≤ w2.heap.size := by have := hg.size; rw [World.size_alloc] at this; exact this
  have keep : ∀ q, q < w1.heap.size → v.ownBlock ≠ some q → w2.heap[q]? = w1.heap[q]? := fun q hq hv => (hg.block q (by rw [World.size_alloc]; omega) (fun e => hv e.symm)).trans (Below.heap_alloc _ _ _ hq)
  have far : ∀ q, q < w1.heap.size → v.ownBlock ≠ some q → (Value.slice (some ⟨g', 0, none⟩) (k + 1) cap').ownBlock ≠ some q := fun q hq hv e => by
    simp only [Value.ownBlock, Option.some.injEq] at e
    rcases hl with hl | hl
    · exact hv (by rw [hl, e])
    · omega
  refine ⟨fun i => if i < k then g i else G, fun i => if i < k then c i else C, ?_, fun i j hi hj' e => ?_, fun i hi => ?_⟩
  · simp only [llv, Nat.lt_irrefl, if_false]
    rw [llv_congr (P' := P) (T' := T) (g' := g) (L' := L) (c' := c) (fun _ _ => rfl) (fun _ _ => rfl) (fun i hi => by simp [hi]) (fun _ _ => rfl) (fun i hi => by simp [hi])]
    exact ho
  · by_cases c1 : i < k <;> by_cases c2 : j < k <;> simp only [c1, c2, if_true, if_false] at e
    · exact hj i j c1 c2 e
    · exact absurd e (hne i c1)
    · exact absurd e.symm (hne j c2)
    · omega
  · by_cases c1 : i < k
    · simp only [c1, if_true]
      obtain ⟨h1, h2, h3, h4, h5⟩ := hc i c1
      exact ⟨h1, by omega, far _ h2 h3, h4.block (keep _ h2 h3), h5⟩
    · have : i = k := by omega
      subst this
      simp only [Nat.lt_irrefl, if_false]
      exact ⟨hG0, by omega, far _ hG1 hG2, hr.block (keep _ hG1 hG2), hC⟩
theorem AL.own {base : Nat} {w : World} {v : Value} {n : Nat} {P T : Nat → Int} {L : Nat → Nat} {Z : Nat → Nat → Int} (h : AL base w v n P T L Z) : ∃ a cap, v = .slice a n cap ∧ n ≤ cap ∧ OwnL w base w.heap.size a n P T L Z := by
  obtain ⟨g, c, hown, hj, hc⟩ := h
  by_cases h0 : n = 0
  · subst h0
    rcases hown.2 with ⟨rfl, _⟩ | ⟨q, cap, cur, rfl, _, _, hcap, _⟩
    · exact ⟨none, 0, rfl, Nat.le_refl _, Nat.le_refl _, .inl rfl⟩
    · exact ⟨_, cap, rfl, hcap, Nat.le_refl _, .inl rfl⟩
  · rcases hown.2 with ⟨rfl, h1⟩ | ⟨q, cap, cur, rfl, hbq, hq, hcap, _⟩
    · omega
    · have hlt : q < w.heap.size := by
        obtain ⟨hlt, _⟩ := Array.getElem?_eq_some_iff.1 hq
        exact hlt
      refine ⟨_, cap, rfl, hcap, Nat.le_refl _, .inr ⟨q, 0, rfl, hbq, hlt, g, fun _ => 0, c, hj, fun i hi => ?_⟩⟩
      obtain ⟨h1, h2, h3, h4, h5⟩ := hc i hi
      have e0 := hown.cellAt (i * 3 + 0) (by omega)
      have e1 := hown.cellAt (i * 3 + 1) (by omega)
      have e2 := hown.cellAt (i * 3 + 2) (by omega)
      rw [llv_get _ _ _ _ _ _ _ _ hi (by omega)] at e0 e1 e2
      refine ⟨fun e => h3 (by simp [Value.ownBlock, e]), h1, h2, ?_, ?_, ?_, hown.frozenAt _, hown.frozenAt _, h4, h5⟩
      · rw [Nat.zero_add]; exact e0
      · rw [Nat.zero_add]; exact e1
      · rw [Nat.zero_add]; exact e2
theorem AL.set {base q p : Nat} {w : World} {v x : Value} {k : Nat} {P T : Nat → Int} {L : Nat → Nat} {Z : Nat → Nat → Int} (h : AL base w v k P T L Z) (hq : q < base) : AL base (w.setCell ⟨q, p, none⟩ x) v k P T L Z := by
  obtain ⟨g, c, ho, hj, hc⟩ := h
  have hw : Writes q (q + 1) w (w.setCell ⟨q, p, none⟩ x) := Writes.setCell (Writes.refl _ _ _) (p := ⟨q, p, none⟩) (Nat.le_refl _) (by show q < q + 1; omega) x
  refine ⟨g, c, ?_, hj, fun i hi => ?_⟩
  · refine ho.kept (row := some q) ⟨hw.os, hw.tape, hw.output, hw.size, fun z hz hne => hw.block z hz (by simp at hne; omega)⟩ ?_
    cases hv : v.ownBlock with
    | none => exact .inl rfl
    | some z => exact .inr (fun e => by have := (ho.lt z hv).1; simp at e; omega)
  · obtain ⟨h1, h2, h3, h4, h5⟩ := hc i hi
    exact ⟨h1, Nat.lt_of_lt_of_le h2 hw.size, h3, h4.block (hw.block _ h2 (by omega)), h5⟩
theorem Writes.of_below' {B : Nat} {w w' : World} (h : Below B w w') : Writes B w.heap.size w w' := ⟨h.os, h.tape, h.output, h.size, fun k hk hd => h.block k (by omega)⟩
theorem frozen_block {w : World} {b j : Nat} {c : Array Value} {t : TypeId} (h : w.heap[b]? = some (.cells c t (0, 0))) : w.frozen? ⟨b, j, none⟩ = false := by simp [World.frozen?, h]
theorem grow_cells {W w1 : World} {q : Nat} {row : Option Nat} (hg : W.grownBy w1 row) (hq : q ≤ W.heap.size) (hr : ∀ k, row = some k → q ≤ k) {b o : Nat} {v : Value} (hb : b < q) (h : W.cell? ⟨b, o, none⟩ = some v) : w1.cell? ⟨b, o, none⟩ = some v :=
  hg.cell h (fun e => by have := hr b e.symm; omega)
theorem grow_frozen {W w1 : World} {q : Nat} {row : Option Nat} (hg : W.grownBy w1 row) (hq : q ≤ W.heap.size) (hr : ∀ k, row = some k → q ≤ k) {b o : Nat} (hb : b < q) (h : W.frozen? ⟨b, o, none⟩ = false) : w1.frozen? ⟨b, o, none⟩ = false :=
  (World.frozen?_of_block (hg.block b (by omega) (fun e => by have := hr b e.symm; omega))).trans h
theorem below_grown {W w1 : World} {q : Nat} {row : Option Nat} (hg : W.grownBy w1 row) (hq : q ≤ W.heap.size) (hr : ∀ k, row = some k → q ≤ k) : Below q W w1 :=
  ⟨hg.os, hg.tape, hg.output, hg.size, fun k hk => hg.block k (by omega) (fun e => by have := hr k e.symm; omega)⟩
/-- Behind the first append of a round: what lay there lies there. -/
theorem after1 {wr w1 : World} {o : Obj} {b0 b1 b2 o0 o1 o2 : Nat} {x0 x1 x2 : Value} (hg : (wr.alloc o).drew.grownBy w1 (some wr.heap.size)) (h0 : wr.cell? ⟨b0, o0, none⟩ = some x0) (h1 : wr.cell? ⟨b1, o1, none⟩ = some x1) (h2 : wr.cell? ⟨b2, o2, none⟩ = some x2) (hf : wr.frozen? ⟨b1, o1, none⟩ = false) :
    (w1.cell? ⟨b0, o0, none⟩ = some x0 ∧ w1.cell? ⟨b1, o1, none⟩ = some x1 ∧ w1.cell? ⟨b2, o2, none⟩ = some x2 ∧ w1.frozen? ⟨b1, o1, none⟩ = false) ∧
    ((∀ o : Obj, (w1.alloc o).cell? ⟨b0, o0, none⟩ = some x0) ∧ (∀ o : Obj, (w1.alloc o).cell? ⟨b1, o1, none⟩ = some x1) ∧ (∀ o : Obj, (w1.alloc o).cell? ⟨b2, o2, none⟩ = some x2) ∧ (∀ o : Obj, (w1.alloc o).frozen? ⟨b1, o1, none⟩ = false)) := by
  have hr : ∀ k, some wr.heap.size = some k → wr.heap.size ≤ k := fun k e => by simp at e; omega
  have hq : wr.heap.size ≤ (wr.alloc o).drew.heap.size := by show wr.heap.size ≤ (wr.alloc o).heap.size; rw [World.size_alloc]; omega
  have l0 := Go.block_lt_of_cell h0
  have l1 := Go.block_lt_of_cell h1
  have l2 := Go.block_lt_of_cell h2
  have k0 := grow_cells hg hq hr l0 (show (wr.alloc o).cell? _ = _ from cell_alloc h0 o)
  have k1 := grow_cells hg hq hr l1 (show (wr.alloc o).cell? _ = _ from cell_alloc h1 o)
  have k2 := grow_cells hg hq hr l2 (show (wr.alloc o).cell? _ = _ from cell_alloc h2 o)
  have k3 := grow_frozen hg hq hr l1 (show (wr.alloc o).frozen? _ = _ by rw [World.frozen?_alloc_past _ _ _ l1]; exact hf)
  refine ⟨⟨k0, k1, k2, k3⟩, fun o => cell_alloc k0 o, fun o => cell_alloc k1 o, fun o => cell_alloc k2 o, fun o => ?_⟩
  rw [World.frozen?_alloc_past _ _ _ (Go.block_lt_of_cell k1)]; exact k3
theorem row_own {w : World} {g base n cap : Nat} {z : Nat → Int} (h : w.ownsRow base 5 1 (.slice (some ⟨g, 0, none⟩) n cap) n (bvs z n)) : Row1 w g 0 n z ∧ n ≤ cap := by
  refine ⟨⟨fun i hi => ?_, fun i hi => h.frozenAt _⟩, ?_⟩
  · rw [Nat.zero_add, h.cellAt i (by omega)]; simp [bvs, hi]
  · rcases h.2 with ⟨e, _⟩ | ⟨_, _, _, e, _, _, h9, _⟩
    · cases e
    · simp at e; omega
theorem news_of {w : World} {pb po : Nat} {z : Nat → Int} {o : Obj} (h : ∀ i, i < 48 → w.cell? ⟨pb, po + i, none⟩ = some (.int .u8 (z i))) : ∀ j u, (bvs z 48)[j]? = some u → (w.alloc o).drew.cell? ((⟨pb, po, none⟩ : Addr).add j) = some u := fun j u hu => by
  obtain ⟨hj, rfl⟩ := bvs_get _ _ _ _ hu
  rw [Addr.add_mid]
  exact cell_alloc (h j hj) o
theorem al_le (w : World) (o : Obj) : w.heap.size ≤ (w.alloc o).drew.heap.size := by show w.heap.size ≤ (w.alloc o).heap.size; rw [World.size_alloc]; omega
theorem one_sl {a : Option Addr} {n c : Nat} (u : Value) : u ∈ [Value.slice a n c] → u.oneCell' = true := fun hu => by simp at hu; subst hu; rfl
theorem le_max8 {k n : Nat} (h : k < n) (hn : n ≤ 8) : k + 1 ≤ maxLen := by unfold maxLen; omega
theorem le_by8 {k n : Nat} (h : k < n) (hn : n ≤ 8) : (k + 1) * 24 ≤ 140737488355328 := by omega
theorem le_al3 {wr w1 : World} {q : Nat} {o o2 : Obj} {row : Option Nat} (h : q ≤ wr.heap.size) (hg : (wr.alloc o).drew.grownBy w1 row) : q ≤ (w1.alloc o2).heap.size := by
  have := hg.size
  have h2 : (wr.alloc o).drew.heap.size = wr.heap.size + 1 := World.size_alloc _ _
  rw [World.size_alloc]; omega
theorem own_after {wr w1 : World} {B n s : Nat} {e : TypeId} {v : Value} {xs : List Value} {o o2 : Obj} (h : wr.ownsRow B e s v n xs) (hg : (wr.alloc o).drew.grownBy w1 (some wr.heap.size)) : (w1.alloc o2).ownsRow B e s v n xs := by
  refine World.ownsRow.alloc ?_ o2
  refine World.ownsRow.kept (w := (wr.alloc o).drew) (h.alloc o) hg ?_
  cases hv : v.ownBlock with
  | none => exact .inl rfl
  | some q => exact .inr (fun e => by have := (h.lt q hv).2; simp at e; omega)
theorem after2 {wr w1 w2 : World} {B n s q p : Nat} {e : TypeId} {v x : Value} {xs : List Value} {o o2 : Obj} (hB : B ≤ wr.heap.size) (hg : (wr.alloc o).drew.grownBy w1 (some wr.heap.size)) (h : wr.ownsRow B e s v n xs) (hg2 : (w1.alloc o2).grownBy w2 v.ownBlock)
    (hc : w1.cell? ⟨q, p, none⟩ = some x) (hf : w1.frozen? ⟨q, p, none⟩ = false) (hq : q < B) : w2.cell? ⟨q, p, none⟩ = some x ∧ w2.frozen? ⟨q, p, none⟩ = false := by
  have hr : ∀ k, v.ownBlock = some k → B ≤ k := fun k hk => (h.lt k hk).1
  have hle : B ≤ (w1.alloc o2).heap.size := le_al3 hB hg
  refine ⟨grow_cells hg2 hle hr hq (cell_alloc hc o2), grow_frozen hg2 hle hr hq ?_⟩
  rw [World.frozen?_alloc_past _ _ _ (Go.block_lt_of_cell hc)]; exact hf
/-- Three blocks of two cells each, from w's end on. -/
structure Fr3 (w wr : World) (x0 x1 y0 y1 p0 p1 : Value) : Prop where
  x : Box2 wr w.heap.size x0 x1
  y : Box2 wr (w.heap.size + 1) y0 y1
  p : Box2 wr (w.heap.size + 1 + 1) p0 p1
  fy : ∀ j, wr.frozen? ⟨w.heap.size + 1, j, none⟩ = false
  fp : ∀ j, wr.frozen? ⟨w.heap.size + 1 + 1, j, none⟩ = false
theorem Fr3.below {w wr w2 : World} {x0 x1 y0 y1 p0 p1 : Value} (h : Fr3 w wr x0 x1 y0 y1 p0 p1) (hb : Below (w.heap.size + 3) wr w2) : Fr3 w w2 x0 x1 y0 y1 p0 p1 := by
  have hc : ∀ b o v, b < w.heap.size + 3 → wr.cell? ⟨b, o, none⟩ = some v → w2.cell? ⟨b, o, none⟩ = some v := fun b o v hlt h => (hb.cell (p := ⟨b, o, none⟩) hlt).trans h
  have hf : ∀ b o, b < w.heap.size + 3 → wr.frozen? ⟨b, o, none⟩ = false → w2.frozen? ⟨b, o, none⟩ = false := fun b o hlt h => (hb.frozen (p := ⟨b, o, none⟩) hlt).trans h
  exact ⟨⟨hc _ _ _ (by omega) h.x.1, hc _ _ _ (by omega) h.x.2⟩, ⟨hc _ _ _ (by omega) h.y.1, hc _ _ _ (by omega) h.y.2⟩, ⟨hc _ _ _ (by omega) h.p.1, hc _ _ _ (by omega) h.p.2⟩, fun j => hf _ _ (by omega) (h.fy j), fun j => hf _ _ (by omega) (h.fp j)⟩
theorem Fr3.new (w : World) (x0 x1 y0 y1 p0 p1 : Value) (t1 t2 t3 : TypeId) : Fr3 w (((w.alloc (.cells #[x0, x1] t1)).alloc (.cells #[y0, y1] t2)).alloc (.cells #[p0, p1] t3)) x0 x1 y0 y1 p0 p1 := by
  have e1 : (w.alloc (.cells #[x0, x1] t1)).heap.size = w.heap.size + 1 := World.size_alloc _ _
  have e2 : ((w.alloc (.cells #[x0, x1] t1)).alloc (.cells #[y0, y1] t2)).heap.size = w.heap.size + 1 + 1 := by rw [World.size_alloc, e1]
  have k1 := Box2.new w x0 x1 t1
  have k2 := Box2.new (w.alloc (.cells #[x0, x1] t1)) y0 y1 t2
  have k3 := Box2.new ((w.alloc (.cells #[x0, x1] t1)).alloc (.cells #[y0, y1] t2)) p0 p1 t3
  rw [e1] at k2
  rw [e2] at k3
  refine ⟨(k1.alloc _).alloc _, k2.alloc _, k3, fun j => ?_, fun j => ?_⟩
  · rw [World.frozen?_alloc_past _ _ _ (by rw [e2]; show w.heap.size + 1 < w.heap.size + 1 + 1; omega)]
    exact frozen_block (blk_last2 w (.cells #[x0, x1] t1) (.cells #[y0, y1] t2))
  · have h := heap_alloc_last ((w.alloc (.cells #[x0, x1] t1)).alloc (.cells #[y0, y1] t2)) (.cells #[p0, p1] t3)
    rw [e2] at h
    exact frozen_block h
theorem setB {w : World} {b b' o o' : Nat} {v : Value} (h : b ≠ b') : (w.setCell ⟨b, o, none⟩ v).cell? ⟨b', o', none⟩ = w.cell? ⟨b', o', none⟩ := World.cell?_setCell_other _ _ _ _ (by intro e; exact h (congrArg Addr.block e))
theorem Fr3.set0 {w wr : World} {x0 x1 y0 y1 p0 p1 : Value} (h : Fr3 w wr x0 x1 y0 y1 p0 p1) (v : Value) : Fr3 w (wr.setCell ⟨w.heap.size + 1 + 1, 0, none⟩ v) x0 x1 y0 y1 v p1 :=
  ⟨⟨by rw [setB (by omega)]; exact h.x.1, by rw [setB (by omega)]; exact h.x.2⟩, ⟨by rw [setB (by omega)]; exact h.y.1, by rw [setB (by omega)]; exact h.y.2⟩, ⟨setS h.p.1, by rw [setO (by omega)]; exact h.p.2⟩, fun j => by rw [World.frozen?_setCell]; exact h.fy j, fun j => by rw [World.frozen?_setCell]; exact h.fp j⟩
theorem Fr3.set1 {w wr : World} {x0 x1 y0 y1 p0 p1 : Value} (h : Fr3 w wr x0 x1 y0 y1 p0 p1) (v : Value) : Fr3 w (wr.setCell ⟨w.heap.size + 1 + 1, 1, none⟩ v) x0 x1 y0 y1 p0 v :=
  ⟨⟨by rw [setB (by omega)]; exact h.x.1, by rw [setB (by omega)]; exact h.x.2⟩, ⟨by rw [setB (by omega)]; exact h.y.1, by rw [setB (by omega)]; exact h.y.2⟩, ⟨by rw [setO (by omega)]; exact h.p.1, setS h.p.2⟩, fun j => by rw [World.frozen?_setCell]; exact h.fy j, fun j => by rw [World.frozen?_setCell]; exact h.fp j⟩
theorem AP.set {base q p : Nat} {w : World} {v x : Value} {k : Nat} {L : Nat → Nat} {Z : Nat → Nat → Int} (h : AP base w v k L Z) (hq : q < base) : AP base (w.setCell ⟨q, p, none⟩ x) v k L Z := by
  obtain ⟨g, c, ho, hj, hc⟩ := h
  have hw : Writes q (q + 1) w (w.setCell ⟨q, p, none⟩ x) := Writes.setCell (Writes.refl _ _ _) (p := ⟨q, p, none⟩) (Nat.le_refl _) (by show q < q + 1; omega) x
  refine ⟨g, c, ?_, hj, fun i hi => ?_⟩
  · refine ho.kept (row := some q) ⟨hw.os, hw.tape, hw.output, hw.size, fun z hz hne => hw.block z hz (by simp at hne; omega)⟩ ?_
    cases hv : v.ownBlock with
    | none => exact .inl rfl
    | some z => exact .inr (fun e => by have := (ho.lt z hv).1; simp at e; omega)
  · obtain ⟨h1, h2, h3, h4, h5⟩ := hc i hi
    exact ⟨h1, Nat.lt_of_lt_of_le h2 hw.size, h3, h4.block (hw.block _ h2 (by omega)), h5⟩
theorem drew_size (w : World) (o : Obj) : (w.alloc o).drew.heap.size = w.heap.size + 1 := World.size_alloc _ _
/-- One round of the pages' loop. -/
theorem l2round {wr w1 w2 : World} {B k G C g2 c2 q : Nat} {v : Value} {Z : Nat → Nat → Int} {g c : Nat → Nat} {o o2 : Obj} (hB : B ≤ wr.heap.size) (hj : ∀ i j, i < k → j < k → g i = g j → i = j)
    (hcc : ∀ i, i < k → B ≤ g i ∧ g i < wr.heap.size ∧ v.ownBlock ≠ some (g i) ∧ Row1 wr (g i) 0 48 (Z i) ∧ 48 ≤ c i) (hown : wr.ownsRow B 27 1 v k (slv g (fun _ => 48) c k))
    (hown1 : w1.ownsRow wr.heap.size 5 1 (.slice (some ⟨G, 0, none⟩) 48 C) 48 (bvs (Z k) 48)) (hG : G < w1.heap.size) (hg1 : (wr.alloc o).drew.grownBy w1 (some wr.heap.size))
    (hown2 : w2.ownsRow B 27 1 (.slice (some ⟨g2, 0, none⟩) (k + 1) c2) (k + 1) (slv g (fun _ => 48) c k ++ [.slice (some ⟨G, 0, none⟩) 48 C])) (hg2 : (w1.alloc o2).grownBy w2 v.ownBlock) (hat2 : v.ownBlock = some g2 ∨ g2 = w1.heap.size + 1) (hq : q < B) (x : Value) :
    AP B (w2.setCell ⟨q, 0, none⟩ x) (.slice (some ⟨g2, 0, none⟩) (k + 1) c2) (k + 1) (fun _ => 48) Z ∧ Below B wr w2 := by
  have hs1 : wr.heap.size + 1 ≤ w1.heap.size := by have := hg1.size; rw [drew_size] at this; exact this
  have blk : ∀ z, z < wr.heap.size → w1.heap[z]? = wr.heap[z]? := fun z hz => (hg1.block z (by rw [drew_size]; omega) (fun e => by simp at e; omega)).trans (Below.heap_alloc _ _ _ hz)
  have hGb : wr.heap.size ≤ G := (hown1.lt G rfl).1
  obtain ⟨hr1, hC1⟩ := row_own hown1
  refine ⟨AP.set (AP.step hj (fun i hi => ?_) (by omega) hG (fun e => by have := (hown.lt G e).2; omega) (fun i hi => by have := (hcc i hi).2.1; omega) hr1 hC1 hown2 hg2 hat2) hq, ?_⟩
  · obtain ⟨h1, h2, h3, h4, h5⟩ := hcc i hi
    exact ⟨h1, by omega, h3, h4.block (blk _ h2), h5⟩
  · have b1 : Below B wr (wr.alloc o).drew := ((Below.refl B wr).alloc hB o).drew
    have b2 : Below B (wr.alloc o).drew w1 := below_grown hg1 (by rw [drew_size]; omega) (fun z e => by simp at e; omega)
    have b3 : Below B w1 (w1.alloc o2) := (Below.refl B w1).alloc (by omega) o2
    have b4 : Below B (w1.alloc o2) w2 := below_grown hg2 (by rw [World.size_alloc]; omega) (fun z e => (hown.lt z e).1)
    exact ((b1.trans b2).trans b3).trans b4
/-- One round of the loose writes' loop. -/
theorem l2roundL {wr w1 w2 : World} {B j G C g2 c2 : Nat} {v : Value} {P T : Nat → Int} {Y : Nat → Nat → Int} {g c : Nat → Nat} {o o1 o2 : Obj} {x : Value} (hB : B ≤ wr.heap.size) (hj : ∀ x y, x < j → y < j → g x = g y → x = y)
    (hcc : ∀ i, i < j → B ≤ g i ∧ g i < wr.heap.size ∧ v.ownBlock ≠ some (g i) ∧ Row1 wr (g i) 0 16 (Y i) ∧ 16 ≤ c i) (hown : wr.ownsRow B 125 3 v j (llv P T g (fun _ => 16) c j))
    (hown1 : w1.ownsRow (wr.heap.size + 1) 5 1 (.slice (some ⟨G, 0, none⟩) 16 C) 16 (bvs (Y j) 16)) (hG : G < w1.heap.size) (hg1 : ((wr.alloc o).alloc o1).grownBy w1 (some (wr.heap.size + 1)))
    (hown2 : w2.ownsRow B 125 3 (.slice (some ⟨g2, 0, none⟩) (j + 1) c2) (j + 1) (llv P T g (fun _ => 16) c j ++ lv3 (P j) (T j) G 16 C)) (hg2 : ((w1.setCell ⟨wr.heap.size, 2, none⟩ x).alloc o2).grownBy w2 v.ownBlock) (hat2 : v.ownBlock = some g2 ∨ g2 = w1.heap.size + 1) :
    AL B w2 (.slice (some ⟨g2, 0, none⟩) (j + 1) c2) (j + 1) P T (fun _ => 16) Y ∧ Below B wr w2 := by
  have e2 : ((wr.alloc o).alloc o1).heap.size = wr.heap.size + 1 + 1 := by rw [World.size_alloc, World.size_alloc]
  have hs1 : wr.heap.size + 1 + 1 ≤ w1.heap.size := by have := hg1.size; rw [e2] at this; exact this
  have es : (w1.setCell ⟨wr.heap.size, 2, none⟩ x).heap.size = w1.heap.size := by simp [World.setCell]
  have blk0 : ∀ z, z < wr.heap.size → ((wr.alloc o).alloc o1).heap[z]? = wr.heap[z]? := fun z hz => (Below.heap_alloc _ _ _ (by rw [World.size_alloc]; omega)).trans (Below.heap_alloc _ _ _ hz)
  have blk : ∀ z, z < wr.heap.size → (w1.setCell ⟨wr.heap.size, 2, none⟩ x).heap[z]? = wr.heap[z]? := fun z hz => by
    rw [blk_setCell_other _ _ _ _ (by show z ≠ wr.heap.size; omega)]
    exact (hg1.block z (by rw [e2]; omega) (fun e => by simp at e; omega)).trans (blk0 z hz)
  have hGb : wr.heap.size + 1 ≤ G := (hown1.lt G rfl).1
  obtain ⟨hr1, hC1⟩ := row_own hown1
  refine ⟨AL.step (w1 := w1.setCell ⟨wr.heap.size, 2, none⟩ x) hj (fun i hi => ?_) (by omega) (by rw [es]; exact hG) (fun e => by have := (hown.lt G e).2; omega) (fun i hi => by have := (hcc i hi).2.1; omega) (hr1.block (blk_setCell_other _ _ _ _ (by show G ≠ wr.heap.size; omega))) hC1 hown2 hg2 (by rw [es]; exact hat2), ?_⟩
  · obtain ⟨h1, h2, h3, h4, h5⟩ := hcc i hi
    exact ⟨h1, by rw [es]; omega, h3, h4.block (blk _ h2), h5⟩
  · have b1 : Below B wr ((wr.alloc o).alloc o1) := ((Below.refl B wr).alloc hB o).alloc (by rw [World.size_alloc]; omega) o1
    have b2 : Below B ((wr.alloc o).alloc o1) w1 := below_grown hg1 (by rw [e2]; omega) (fun z e => by simp at e; omega)
    have b3 : Below B w1 ((w1.setCell ⟨wr.heap.size, 2, none⟩ x).alloc o2) := ((Below.refl B w1).setCell (p := ⟨wr.heap.size, 2, none⟩) hB x).alloc (by rw [es]; omega) o2
    have b4 : Below B ((w1.setCell ⟨wr.heap.size, 2, none⟩ x).alloc o2) w2 := below_grown hg2 (by rw [World.size_alloc, es]; omega) (fun z e => (hown.lt z e).1)
    exact ((b1.trans b2).trans b3).trans b4
/-- Behind the append of the bytes: what lay there lies there, behind the store into the box too. -/
theorem after3 {wr w1 : World} {b q : Nat} {x0 x1 x2 v : Value} {o1 : Obj} {t : TypeId} (hg : ((wr.alloc (.cells #[x0, x1, x2] t)).alloc o1).grownBy w1 (some (wr.heap.size + 1))) (hc : wr.cell? ⟨b, q, none⟩ = some v) (hf : wr.frozen? ⟨b, q, none⟩ = false) :
    (w1.cell? ⟨wr.heap.size, 0, none⟩ = some x0 ∧ w1.cell? ⟨wr.heap.size, 1, none⟩ = some x1 ∧ w1.cell? ⟨wr.heap.size, 2, none⟩ = some x2 ∧ w1.frozen? ⟨wr.heap.size, 2, none⟩ = false) ∧ (w1.cell? ⟨b, q, none⟩ = some v ∧ w1.frozen? ⟨b, q, none⟩ = false) ∧
      (b ≠ wr.heap.size ∧ b < w1.heap.size ∧ wr.heap.size < w1.heap.size) := by
  have e2 : ((wr.alloc (.cells #[x0, x1, x2] t)).alloc o1).heap.size = wr.heap.size + 1 + 1 := by rw [World.size_alloc, World.size_alloc]
  have hr : ∀ k, some (wr.heap.size + 1) = some k → wr.heap.size + 1 ≤ k := fun k e => by simp at e; omega
  have hq : wr.heap.size + 1 ≤ ((wr.alloc (.cells #[x0, x1, x2] t)).alloc o1).heap.size := by rw [e2]; omega
  have lb : b < wr.heap.size := Go.block_lt_of_cell hc
  have bx := (Box3.new wr x0 x1 x2 t).alloc o1
  have fz : ((wr.alloc (.cells #[x0, x1, x2] t)).alloc o1).frozen? ⟨wr.heap.size, 2, none⟩ = false := by
    rw [World.frozen?_alloc_past _ _ _ (by rw [World.size_alloc]; show wr.heap.size < wr.heap.size + 1; omega)]
    exact frozen_block (heap_alloc_last _ _)
  have hs := hg.size
  rw [e2] at hs
  refine ⟨⟨grow_cells hg hq hr (by omega) bx.1, grow_cells hg hq hr (by omega) bx.2.1, grow_cells hg hq hr (by omega) bx.2.2, grow_frozen hg hq hr (by omega) fz⟩, ⟨grow_cells hg hq hr (by show b < _; omega) (cell_alloc (cell_alloc hc _) _), grow_frozen hg hq hr (by show b < _; omega) ?_⟩, by omega, by omega, by omega⟩
  rw [World.frozen?_alloc_past _ _ _ (by rw [World.size_alloc]; show b < _; omega), World.frozen?_alloc_past _ _ _ lb]; exact hf
theorem cell_set_alloc {w : World} {b q b' q' : Nat} {x v : Value} (hne : b' ≠ b) (h : w.cell? ⟨b', q', none⟩ = some v) (o : Obj) : ((w.setCell ⟨b, q, none⟩ x).alloc o).cell? ⟨b', q', none⟩ = some v :=
  cell_alloc ((setB (fun e => hne e.symm)).trans h) o
theorem own_set_alloc {wr w1 : World} {B n s : Nat} {e : TypeId} {v x : Value} {xs : List Value} {o o1 o2 : Obj} (h : wr.ownsRow B e s v n xs) (hg : ((wr.alloc o).alloc o1).grownBy w1 (some (wr.heap.size + 1))) : ((w1.setCell ⟨wr.heap.size, 2, none⟩ x).alloc o2).ownsRow B e s v n xs := by
  refine World.ownsRow.alloc ?_ o2
  have h1 : w1.ownsRow B e s v n xs := by
    refine World.ownsRow.kept ((h.alloc o).alloc o1) hg ?_
    cases hv : v.ownBlock with
    | none => exact .inl rfl
    | some q => exact .inr (fun e => by have := (h.lt q hv).2; simp at e; omega)
  have hw : Writes wr.heap.size (wr.heap.size + 1) w1 (w1.setCell ⟨wr.heap.size, 2, none⟩ x) := Writes.setCell (Writes.refl _ _ _) (p := ⟨wr.heap.size, 2, none⟩) (Nat.le_refl _) (by show wr.heap.size < _; omega) x
  refine h1.kept (row := some wr.heap.size) ⟨hw.os, hw.tape, hw.output, hw.size, fun z hz hne => hw.block z hz (by simp at hne; omega)⟩ ?_
  cases hv : v.ownBlock with
  | none => exact .inl rfl
  | some q => exact .inr (fun e => by have := (h.lt q hv).2; simp at e; omega)
/-- A disk without a fault. -/
structure GoodD (D : Dk) : Prop where
  n1 : 1 ≤ D.n
  n8 : D.n ≤ 8
  L : ∀ i, i < D.n → D.L i = 48
  m : D.m ≤ 60
  P : ∀ i, i < D.m → 0 ≤ D.P i ∧ D.P i < D.n
  T : ∀ i, i < D.m → 0 ≤ D.T i ∧ D.T i ≤ 2
  M : ∀ i, i < D.m → D.M i = 16
theorem pgf_zero {L : Nat → Nat} : ∀ {f k : Nat}, pgf L f k = 0 → ∀ i, k ≤ i → i < k + f → L i = 48
  | 0, k, _, i, h1, h2 => by omega
  | f + 1, k, h, i, h1, h2 => by
    rw [pgf] at h
    by_cases e : L k = 48
    · rw [if_pos e] at h
      by_cases d : i = k
      · subst d; exact e
      · exact pgf_zero h i (by omega) (by omega)
    · rw [if_neg e] at h; omega
theorem lsf_zero {n : Nat} {P T : Nat → Int} {M : Nat → Nat} : ∀ {f k : Nat}, lsf n P T M f k = 0 → ∀ i, k ≤ i → i < k + f → (0 ≤ P i ∧ P i < n) ∧ (0 ≤ T i ∧ T i ≤ 2) ∧ M i = 16
  | 0, k, _, i, h1, h2 => by omega
  | f + 1, k, h, i, h1, h2 => by
    rw [lsf] at h
    by_cases e : inB (P k) 0 ((n : Int) - 1) = false ∨ inB (T k) 0 2 = false
    · rw [if_pos e] at h; omega
    · rw [if_neg e] at h
      by_cases e2 : M k = 16
      · rw [if_pos e2] at h
        by_cases d : i = k
        · subst d
          simp [inB] at e
          exact ⟨⟨by omega, by omega⟩, ⟨by omega, by omega⟩, e2⟩
        · exact lsf_zero h i (by omega) (by omega)
      · rw [if_neg e2] at h; omega
theorem goodD_of {D : Dk} (h : df D = 0) : GoodD D := by
  unfold df at h
  by_cases h1 : inB D.n 1 8 = false
  · rw [if_pos h1] at h; omega
  · rw [if_neg h1] at h
    simp [inB] at h1
    by_cases h2 : pgf D.L D.n 0 = 1
    · rw [if_pos h2] at h; omega
    · rw [if_neg h2] at h
      have h3 : pgf D.L D.n 0 = 0 := by
        rcases pgf_01 D.L D.n 0 with h | h
        · exact h
        · exact absurd h h2
      by_cases h4 : 60 < D.m
      · rw [if_pos h4] at h; omega
      · rw [if_neg h4] at h
        have hl := fun i (hi : i < D.m) => lsf_zero h i (Nat.zero_le _) (by omega)
        exact ⟨by omega, by omega, fun i hi => pgf_zero h3 i (Nat.zero_le _) (by omega), by omega, fun i hi => (hl i hi).1, fun i hi => (hl i hi).2.1, fun i hi => (hl i hi).2.2⟩
/-- The disk of an answer with a code. -/
def E0 : Dk := ⟨0, fun _ => 0, fun _ _ => 0, 0, fun _ => 0, fun _ => 0, fun _ => 0, fun _ _ => 0⟩
def rD (c : Int) (X : Dk) : Dk := if c = 0 then X else E0
def DRes (c : Int) (X : Dk) (w : World) (e : Ending) (w' : World) : Prop :=
  ∃ a a' cap cap', e = .returned (.agg #[.int .i64 c, .slice a (rD c X).n cap, .slice a' (rD c X).m cap']) ∧ Below w.heap.size w w' ∧ OwnD w' w.heap.size w'.heap.size a a' (rD c X)
theorem dres_bad {c : Int} {X : Dk} {w w' : World} (hb : Below w.heap.size w w') (hc : c ≠ 0) : DRes c X w (.returned (.agg #[.int .i64 c, .slice none 0 0, .slice none 0 0])) w' := by
  unfold DRes rD
  rw [if_neg hc]
  exact ⟨none, none, 0, 0, rfl, hb, Nat.le_refl _, w.heap.size, w.heap.size, w.heap.size, w.heap.size, Nat.le_refl _, hb.size, Nat.le_refl _, hb.size, .inl (Nat.le_refl _), ⟨hb.size, .inl rfl⟩, ⟨hb.size, .inl rfl⟩⟩
theorem shl_get (Z : Nat → Nat → Int) : ∀ n i q, i < n → q < 48 → (shl Z n)[i * 48 + q]? = (bvs (Z i) 48)[q]?
  | 0, i, q, h, _ => by omega
  | n + 1, i, q, h, hq => by
    simp only [shl]
    by_cases e : i = n
    · subst e
      rw [List.getElem?_append_right (by rw [shl_len]; omega), shl_len]
      congr 1; omega
    · rw [List.getElem?_append_left (by rw [shl_len]; omega)]
      exact shl_get Z n i q (by omega) hq
end Go.Proofs.Ytjggplfhkejbbaa
