/- Loose writes that are appended one by one. -/
import Derived.Test.YtaokclhcmgbgnaaGreatQZsa
import Derived.Deep.AppendLies
import Derived.Laws.AppendOwn
import Derived.OwnWalk
import Derived.Laws.CopyOwn
import Derived.Deep.MidRow
import Derived.Deep.WholeRow
namespace Go.Proofs.YtaokclhcmgbgnaaGreat
open Go.ChangeShapes Go.WideShapes Go.ChangeAt Go.RowKit Go.Deep Go.Joins
set_option linter.unusedVariables false
set_option maxRecDepth 20000
open Go.RowKit Go.Deep

theorem ownsRow_of {w w' : World} {base n s : Nat} {e : TypeId} {v : Value} {xs : List Value} (h : w.ownsRow base e s v n xs) (hb : ∀ q, v.ownBlock = some q → w'.heap[q]? = w.heap[q]?) : w'.ownsRow base e s v n xs := by
  obtain ⟨h1, h2 | ⟨g, cap, cur, rfl, k1, k2, k3⟩⟩ := h
  · exact ⟨h1, .inl h2⟩
  · exact ⟨h1, .inr ⟨g, cap, cur, rfl, k1, (hb g rfl).trans k2, k3⟩⟩
theorem info_parts2 {P : Program} {t : TypeId} {z : Value} {s b : Nat} (h : (P.info? t).map (fun i => (i.zero, i.size, i.bytes)) = some (some z, s, b)) : ∃ i, P.info? t = some i ∧ i.zero = some z ∧ i.size = s ∧ i.bytes = b := by
  obtain ⟨i, hi, hzz⟩ := Option.map_eq_some_iff.1 h
  simp only [Prod.mk.injEq] at hzz
  exact ⟨i, hi, hzz.1, hzz.2.1, hzz.2.2⟩
/-- The cells of the first k. -/
def rcPg (t : Pg) (A : Option Addr) (c : Nat) : List Value := [.int .i64 t.id, .int .i64 t.lsn, .slice A t.cn c]
def rbPg (T : Nat → Pg) (A : Nat → Option Addr) (c : Nat → Nat) : Nat → List Value
  | 0 => []
  | k + 1 => rbPg T A c k ++ rcPg (T k) (A k) (c k)
theorem rbPg_len (T : Nat → Pg) (A : Nat → Option Addr) (c : Nat → Nat) : ∀ k, (rbPg T A c k).length = k * 3
  | 0 => rfl
  | k + 1 => by simp only [rbPg, List.length_append, rbPg_len T A c k, rcPg, List.length_cons, List.length_nil]; omega
theorem rbPg_get (T : Nat → Pg) (A : Nat → Option Addr) (c : Nat → Nat) : ∀ k i j, i < k → j < 3 → (rbPg T A c k)[i * 3 + j]? = (rcPg (T i) (A i) (c i))[j]?
  | 0, i, j, h, _ => by omega
  | k + 1, i, j, h, hj => by
    simp only [rbPg]
    by_cases e : i = k
    · subst e
      rw [List.getElem?_append_right (by rw [rbPg_len]; omega), rbPg_len]
      congr 1; omega
    · rw [List.getElem?_append_left (by rw [rbPg_len]; omega)]
      exact rbPg_get T A c k i j (by omega) hj
theorem rbPg_congr {T T' : Nat → Pg} {A A' : Nat → Option Addr} {c c' : Nat → Nat} : ∀ k, (∀ i, i < k → T i = T' i ∧ A i = A' i ∧ c i = c' i) → rbPg T A c k = rbPg T' A' c' k
  | 0, _ => rfl
  | k + 1, h => by
    obtain ⟨e1, e2, e3⟩ := h k (by omega)
    simp only [rbPg, e1, e2, e3, rbPg_congr k (fun i hi => h i (by omega))]
theorem rcPg_one (t : Pg) (A : Option Addr) (c : Nat) : ∀ u ∈ rcPg t A c, u.oneCell' = true := by
  intro u hu
  simp [rcPg] at hu
  rcases hu with rfl | rfl | rfl <;> rfl
/-- A list of k that grows: it and what its elements hold lie in blocks of their own from base on, below top. -/
def GrPg (base top : Nat) (w : World) (v : Value) (k : Nat) (T : Nat → Pg) : Prop :=
  top ≤ w.heap.size ∧ ∃ (A : Nat → Option Addr) (c l h : Nat → Nat), w.ownsRow base 66 3 v k (rbPg T A c k) ∧ (∀ q, v.ownBlock = some q → q < top) ∧ (∀ i j, i < k → j < k → i ≠ j → h i ≤ l j ∨ h j ≤ l i) ∧
    ∀ i, i < k → (∀ q, v.ownBlock = some q → q < l i ∨ h i ≤ q) ∧ (h i = 0 ∨ base ≤ l i ∧ h i ≤ top) ∧ (T i).cn ≤ c i ∧ Own w (l i) (h i) (A i) (T i).cn (T i).cK (T i).cV
theorem GrPg.nil (base : Nat) (w : World) (T : Nat → Pg) : GrPg base w.heap.size w (.slice none 0 0) 0 T :=
  ⟨Nat.le_refl _, fun _ => none, fun _ => 0, fun _ => 0, fun _ => 0, World.ownsRow_nil _ _ _ _, fun q hq => by simp [Value.ownBlock] at hq, fun i j hi => by omega, fun i hi => by omega⟩
theorem GrPg.writes {base top lo hi : Nat} {w w' : World} {v : Value} {k : Nat} {T : Nat → Pg} (h : GrPg base top w v k T) (hw : Writes lo hi w w') (hd : hi ≤ base ∨ top ≤ lo) : GrPg base top w' v k T := by
  obtain ⟨h0, A, c, l, h, ho, hv, hj, hc⟩ := h
  refine ⟨Nat.le_trans h0 hw.size, A, c, l, h, ownsRow_of ho fun q hq => hw.block q (by have := hv q hq; omega) (by have h1 := hv q hq; have h2 := (ho.lt q hq).1; omega), hv, hj, fun i hi => ?_⟩
  obtain ⟨k1, k2, k3, k4⟩ := hc i hi
  exact ⟨k1, k2, k3, k4.writes hw (by omega)⟩
theorem GrPg.below {base top : Nat} {w w' : World} {v : Value} {k : Nat} {T : Nat → Pg} (h : GrPg base top w v k T) (hb : Below w.heap.size w w') : GrPg base top w' v k T :=
  h.writes (Writes.of_below (lo := w.heap.size) (hi := w.heap.size) hb) (.inr h.1)
theorem GrPg.wide {base top top' : Nat} {w : World} {v : Value} {k : Nat} {T : Nat → Pg} (h : GrPg base top w v k T) (h1 : top ≤ top') (h2 : top' ≤ w.heap.size) : GrPg base top' w v k T := by
  obtain ⟨h0, A, c, l, h, ho, hv, hj, hc⟩ := h
  exact ⟨h2, A, c, l, h, ho, fun q hq => Nat.lt_of_lt_of_le (hv q hq) h1, hj, fun i hi => by obtain ⟨k1, k2, k3⟩ := hc i hi; exact ⟨k1, by omega, k3⟩⟩
theorem GrPg.congr {base top : Nat} {w : World} {v : Value} {k : Nat} {T T' : Nat → Pg} (h : GrPg base top w v k T) (e : ∀ i, i < k → T i = T' i) : GrPg base top w v k T' := by
  obtain ⟨h0, A, c, l, h, ho, hv, hj, hc⟩ := h
  exact ⟨h0, A, c, l, h, by rw [← rbPg_congr k fun i hi => ⟨e i hi, rfl, rfl⟩]; exact ho, hv, hj, fun i hi => by rw [← e i hi]; exact hc i hi⟩
theorem GrPg.own {base top : Nat} {w : World} {v : Value} {k : Nat} {T : Nat → Pg} (h : GrPg base top w v k T) : ∃ a cap, v = .slice a k cap ∧ k ≤ cap ∧ OwnPgP w (fun x => base ≤ x ∧ x < top) a k T := by
  obtain ⟨h0, A, c, l, h, ho, hv, hj, hc⟩ := h
  have hown := ho
  obtain ⟨h1, ⟨rfl, rfl⟩ | ⟨g, cap, cur, rfl, k1, k2, k3, k4⟩⟩ := ho
  · exact ⟨none, 0, rfl, Nat.le_refl _, .inl rfl⟩
  · have hg := hv g rfl
    refine ⟨_, cap, rfl, k3, .inr ⟨g, 0, rfl, ⟨k1, hg⟩, by omega, fun i => hown.frozenAt _, l, h, hj, fun i hi => ?_⟩⟩
    obtain ⟨m1, m2, m3, m4⟩ := hc i hi
    refine ⟨m1 g rfl, fun x x1 x2 => by omega, A i, c i, ?_, m3, m4⟩
    have cc : ∀ j v, j < 3 → (rcPg (T i) (A i) (c i))[j]? = some v → w.cell? ⟨g, 0 + i * 3 + j, none⟩ = some v := fun j v hj hv => by
      rw [hown.cellAt (0 + i * 3 + j) (by omega), show 0 + i * 3 + j = i * 3 + j by omega, rbPg_get T A c k i j hi hj, hv]
    exact ⟨cc 0 _ (by omega) rfl, cc 1 _ (by omega) rfl, cc 2 _ (by omega) rfl⟩
theorem GrPg.step {base top l' h' g cap : Nat} {w w' : World} {v : Value} {k : Nat} {T : Nat → Pg} {t : Pg} {ai : Option Addr} {ci : Nat} (hk : (h' = 0 ∨ top ≤ l' ∧ h' ≤ w.heap.size)) (hb : base ≤ top) (hn : t.cn ≤ ci) (hu : Own w l' h' ai t.cn t.cK t.cV)
    (A : Nat → Option Addr) (c l h : Nat → Nat) (h0 : top ≤ w.heap.size) (hv : ∀ q, v.ownBlock = some q → q < top) (hj : ∀ i j, i < k → j < k → i ≠ j → h i ≤ l j ∨ h j ≤ l i)
    (hc : ∀ i, i < k → (∀ q, v.ownBlock = some q → q < l i ∨ h i ≤ q) ∧ (h i = 0 ∨ base ≤ l i ∧ h i ≤ top) ∧ (T i).cn ≤ c i ∧ Own w (l i) (h i) (A i) (T i).cn (T i).cK (T i).cV)
    (ho : w'.ownsRow base 66 3 (.slice (some ⟨g, 0, none⟩) (k + 1) cap) (k + 1) (rbPg T A c k ++ rcPg t ai ci)) (hg : w.grownBy w' v.ownBlock) (hl : v.ownBlock = some g ∨ g = w.heap.size) (hlt : g < w'.heap.size) :
    GrPg base w'.heap.size w' (.slice (some ⟨g, 0, none⟩) (k + 1) cap) (k + 1) (upf9 T k t) := by
  have hsz := hg.size
  have far : ∀ L H, (∀ q, v.ownBlock = some q → q < L ∨ H ≤ q) → ∀ a n K V, Own w L H a n K V → Own w' L H a n K V := by
    intro L H hq a n K V hO
    exact hO.keep hsz fun x x1 x2 x3 => hg.block x x3 fun e => by have := hq x e.symm; omega
  refine ⟨Nat.le_refl _, fun i => if i = k then ai else A i, fun i => if i = k then ci else c i, fun i => if i = k then l' else l i, fun i => if i = k then h' else h i, ?_, fun q hq => by simp [Value.ownBlock] at hq; subst hq; exact hlt, fun i j hi hj' hne => ?_, fun i hi => ?_⟩
  · have e : rbPg (upf9 T k t) (fun i => if i = k then ai else A i) (fun i => if i = k then ci else c i) (k + 1) = rbPg T A c k ++ rcPg t ai ci := by
      simp only [rbPg, upf9_eq, if_true]
      congr 1
      exact rbPg_congr k fun i hi => ⟨upf9_ne _ _ (by omega), if_neg (by omega), if_neg (by omega)⟩
    rw [e]; exact ho
  · by_cases c1 : i = k <;> by_cases c2 : j = k <;> simp only [c1, c2, if_true, if_false]
    · omega
    · have := (hc j (by omega)).2.1; omega
    · have := (hc i (by omega)).2.1; omega
    · exact hj i j (by omega) (by omega) hne
  · by_cases e : i = k
    · subst e
      simp only [if_true, upf9_eq]
      refine ⟨fun q hq => ?_, by omega, hn, far l' h' (fun q hq => by have := hv q hq; omega) _ _ _ _ hu⟩
      simp only [Value.ownBlock, Option.some.injEq] at hq
      subst hq
      rcases hl with hl | hl
      · have := hv g hl; omega
      · omega
    · simp only [if_neg e]
      rw [upf9_ne _ _ e]
      obtain ⟨m1, m2, m3, m4⟩ := hc i (by omega)
      refine ⟨fun q hq => ?_, by omega, m3, far _ _ m1 _ _ _ _ m4⟩
      simp only [Value.ownBlock, Option.some.injEq] at hq
      subst hq
      rcases hl with hl | hl
      · exact m1 g hl
      · omega
theorem wp_grPg {o : Oper} {a : Act} {Kc : Act → World → Prop} {Q : Exit → Act → World → Prop} (w : World) (s x : Operand)
    (ho : o.op = .call { callee := .builtin .append, args := #[s, x], argTypes := #[35, 35] })
    (base top : Nat) (v : Value) (k : Nat) (T : Nat → Pg) (hs : a.eval s = v) (hgr : GrPg base top w v k T) (X O cx : Nat) (t : Pg) (ai : Option Addr) (ci l' h' : Nat) (hx : a.eval x = .slice (some ⟨X, O, none⟩) 1 cx) (hC : CPg w X O t ai ci)
    (hk : (h' = 0 ∨ top ≤ l' ∧ h' ≤ w.heap.size)) (hb : base ≤ top) (hn : t.cn ≤ ci) (hu : Own w l' h' ai t.cn t.cK t.cV) (hlen : k ≤ 100000)
    (hK : ∀ g cap w', GrPg base w'.heap.size w' (.slice (some ⟨g, 0, none⟩) (k + 1) cap) (k + 1) (upf9 T k t) → w.grownBy w' v.ownBlock → Kc (a.put o.dst (.slice (some ⟨g, 0, none⟩) (k + 1) cap)) w') : o.wp Tryz.prog a w Kc Q := by
  obtain ⟨i0, hi, hz0, hz1, hz2⟩ := info_parts2 infoPg
  obtain ⟨h0, A, c, l, h, hown, hv, hj, hc⟩ := hgr
  refine wp_append_lies w s x 35 ho base 66 i0 _ 3 40 Tryz.underlying35 hi hz0 hz1 hz2 rfl (by decide) v k (rbPg T A c k) hs hown ⟨X, O, none⟩ 1 cx (rcPg t ai ci) hx rfl (fun j u hju => ?_) (rcPg_one _ _ _) (by decide) (by unfold maxLen; omega) (by omega) (by omega) _ rfl ?_
  · obtain ⟨h0, h1, h2⟩ := hC
    rw [WideShapes.add_plain]
    have hd : j < 3 := by have := (List.getElem?_eq_some_iff.1 hju).1; simpa [rcPg] using this
    have hd2 : j = 0 ∨ j = 1 ∨ j = 2 := by omega
    rcases hd2 with rfl | rfl | rfl
    · rw [← hju]; rw [Nat.add_zero]; exact h0
    · rw [← hju]; exact h1
    · rw [← hju]; exact h2
  · intro g cap w' ho2 hg2 hl2 hlt2
    exact hK g cap w' (GrPg.step hk hb hn hu A c l h h0 hv hj hc ho2 hg2 hl2 hlt2) hg2
theorem wpList_grPg {ops : Array Oper} {rest : List Oper} {o : Oper} {a : Act} {Q : Exit → Act → World → Prop} (w : World) (hgd : o.guard = none) (s x : Operand)
    (ho : o.op = .call { callee := .builtin .append, args := #[s, x], argTypes := #[35, 35] })
    (base top : Nat) (v : Value) (k : Nat) (T : Nat → Pg) (hs : a.eval s = v) (hgr : GrPg base top w v k T) (X O cx : Nat) (t : Pg) (ai : Option Addr) (ci l' h' : Nat) (hx : a.eval x = .slice (some ⟨X, O, none⟩) 1 cx) (hC : CPg w X O t ai ci)
    (hk : (h' = 0 ∨ top ≤ l' ∧ h' ≤ w.heap.size)) (hb : base ≤ top) (hn : t.cn ≤ ci) (hu : Own w l' h' ai t.cn t.cK t.cV) (hlen : k ≤ 100000)
    (hK : ∀ g cap w', GrPg base w'.heap.size w' (.slice (some ⟨g, 0, none⟩) (k + 1) cap) (k + 1) (upf9 T k t) → w.grownBy w' v.ownBlock → wpList Tryz.prog ops Q rest (a.put o.dst (.slice (some ⟨g, 0, none⟩) (k + 1) cap)) w') : wpList Tryz.prog ops Q (o :: rest) a w :=
  wpList_plain hgd fun _ hKK => wp_grPg w s x ho base top v k T hs hgr X O cx t ai ci l' h' hx hC hk hb hn hu hlen fun g cap w' h2 h3 => hKK _ _ (hK g cap w' h2 h3)
/-- n bytes, as values. -/
def bvs (z : Nat → Int) (n : Nat) : List Value := (List.range n).map fun i => .int .u8 (z i)
theorem bvs_len (z : Nat → Int) (n : Nat) : (bvs z n).length = n := by simp [bvs]
theorem bvs_size (z : Nat → Int) (n : Nat) : (bvs z n).toArray.size = n := by simp [bvs]
theorem bvs_get (z : Nat → Int) (n j : Nat) (v : Value) (h : (bvs z n)[j]? = some v) : j < n ∧ v = .int .u8 (z j) := by
  have hj : j < n := by have := (List.getElem?_eq_some_iff.1 h).1; rwa [bvs_len] at this
  refine ⟨hj, ?_⟩
  simp [bvs, hj] at h
  exact h.symm
theorem bvs_one (z : Nat → Int) (n : Nat) : ∀ v ∈ bvs z n, v.oneCell' = true := fun v hv => by
  obtain ⟨i, _, rfl⟩ := List.mem_map.1 hv
  rfl
theorem size5 : (Tryz.prog.info? 5).map (·.size) = some 1 := by kernel_rfl
theorem size144 : (Tryz.prog.info? 238).map (·.size) = some 16 := by kernel_rfl
theorem size147 : (Tryz.prog.info? 241).map (·.size) = some 48 := by kernel_rfl
theorem splice_all {α : Type} (L cs : List α) (h : L.length = cs.length) : splice L 0 cs = cs := by
  unfold splice
  rw [List.drop_of_length_le (by omega)]
  simp
def zeros (n : Nat) : List Value := List.replicate n (.int .u8 0)
theorem zeros_size (n : Nat) : (zeros n).toArray.size = n := by simp [zeros]
theorem zeros_get (n i : Nat) (h : i < n) : (zeros n).toArray[i]? = some (.int .u8 0) := by simp [zeros, h]
theorem there_block {w : World} {b n : Nat} {c : Array Value} {t : TypeId} (h : w.heap[b]? = some (.cells c t (0, 0))) (hn : n ≤ c.size) : w.there b 0 n := fun j hj => by
  refine ⟨?_, by simp [World.frozen?, h]⟩
  rw [Nat.zero_add]
  simp [World.cell?, h]
  omega
theorem range_block {w : World} {b : Nat} {cs : List Value} {t : TypeId} {fr : Nat × Nat} (h : w.heap[b]? = some (.cells cs.toArray t fr)) : w.rangeAt b 0 cs := fun j v hv => by
  rw [Nat.zero_add]
  simp [World.cell?, h, hv]
theorem blk_last2 (w : World) (o1 o2 : Obj) : ((w.alloc o1).alloc o2).heap[w.heap.size + 1]? = some o2 := by
  have h := heap_alloc_last (w.alloc o1) o2
  rw [World.size_alloc] at h
  exact h
theorem Writes.setCells {lo hi b : Nat} {w : World} (h1 : lo ≤ b) (h2 : b < hi) : ∀ (vs : List Value) (o : Nat) (w' : World), Writes lo hi w w' → Writes lo hi w (w'.setCells b o vs)
  | [], _, _, h => h
  | v :: r, o, w', h => by
    rw [World.setCells]
    exact Writes.setCells h1 h2 r (o + 1) _ (h.setCell (p := ⟨b, o, none⟩) h1 h2 v)
theorem results_one {fn : Func} {p : Tmp} {ty : TypeId} (h : fn.results = #[.cell p ty]) (tmps : Array Value) (w : World) (a : Addr) (v : Value) (hp : tmps.getD p undef = .pointer (some a)) (hl : (loadVar ty a).run Tryz.prog w = .ok v w) :
    (results fn tmps).run Tryz.prog w = .ok v w := by
  have hp' : tmps[p]?.getD undef = .pointer (some a) := by simpa using hp
  simp [results, h, hp', asAddr, hl]
set_option maxHeartbeats 400000 in
theorem sectorOf_any (n : Nat) (z : Nat → Int) (a : Option Addr) (cap : Nat) (w : World) (hn : 16 ≤ n) (h : BytesAt w a n z) :
    Calls Tryz.prog 201 #[.slice a n cap] w fun e w' => e = .returned (.agg (bvs z 16).toArray) ∧ Below w.heap.size w w' := by
  obtain ⟨b, off, rfl, hbl, hc⟩ : ∃ b off, a = some ⟨b, off, none⟩ ∧ b < w.heap.size ∧ ∀ i, i < n → w.cell? ⟨b, off + i, none⟩ = some (.int .u8 (z i)) := by
    rcases h with h | h
    · omega
    · exact h
  have hb0 : ∀ o1 o2, Below w.heap.size w ((w.alloc o1).alloc o2) := fun o1 o2 => (((Below.refl _ _).alloc (Nat.le_refl _) _).alloc (by simp) _)
  have HC : Hid (∀ i, i < n → w.cell? ⟨b, off + i, none⟩ = some (.int .u8 (z i))) := hc
  clear h hc
  go_enter Tryz.func201, Tryz.ntmps201
  go_wp2_with (refine wpList_copy_splice (by rfl) (.tmp 4) (.tmp 5) 27 27 (by rfl) 5 Tryz.underlying27 size5 (some ⟨w.heap.size + 1, 0, none⟩) (some ⟨b, off, none⟩) 16 16 n cap (by rfl) (by rfl) (w.heap.size + 1) 0 (zeros 16) 238 ?hg (bvs z 16) ?hn ?hpos ?hfit (bvs_one _ _) (w.heap.size + 1) (w.alloc (.cells (zeros 16).toArray 238)) ?hb ?hB ?_)
  case hg => exact blk_last2 _ _ _
  case hn => rw [bvs_len]; exact (Nat.min_eq_right hn).symm
  case hpos =>
    intro _ j v hv
    obtain ⟨hj, rfl⟩ := bvs_get _ _ _ _ hv
    exact HC.out j (by omega)
  case hfit => rw [bvs_len]; decide
  case hb => exact (Below.refl _ _).alloc (by simp) _
  case hB => exact Nat.le_refl _
  intro w2 hg2 hb2
  have hg3 : w2.heap[w.heap.size + 1]? = some (.cells (bvs z 16).toArray 238 (0, 0)) := by have h := hg2.out; rw [splice_all _ _ (by rw [bvs_len]; decide)] at h; exact h
  have hg4 : w2.heap[w.heap.size]? = some (.cells (zeros 16).toArray 238 (0, 0)) := by rw [hb2.block _ (by omega)]; exact heap_alloc_last _ _
  have HR : Hid (w2.rangeAt (w.heap.size + 1) 0 (bvs z 16)) := range_block hg3
  have HT : Hid (w2.there w.heap.size 0 16) := there_block hg4 (by decide)
  have HB : Hid (Below w.heap.size w w2) := (below_new w _).trans (hb2.mono (by omega))
  clear hg2 hb2 hg3 hg4 HC
  go_wp2_with (first | (refine wpList_load_mid (by rfl) 238 (.tmp 3) (by rfl) (w.heap.size + 1) 0 (by rfl) (bvs z 16) _ HR.out Tryz.underlying238 rfl (by rw [size144, bvs_len]) ?_) | (refine wpList_store_mid (by rfl) 238 (.tmp 2) (.tmp 7) (by rfl) w.heap.size 0 (bvs z 16).toArray (by rfl) (by rfl) ?_ ?_ ?_ ?_))
  · simpa [bvs_len] using HT.out
  · rw [size144]; simp [bvs_len]
  · exact all_oneCell_toArray (bvs_one _ _)
  have hlv : (loadVar 238 ⟨w.heap.size, 0, none⟩).run Tryz.prog (w2.setCells w.heap.size 0 (bvs z 16)) = .ok (.agg (bvs z 16).toArray) (w2.setCells w.heap.size 0 (bvs z 16)) :=
    run_loadVar_mid _ _ _ 238 (bvs z 16) _ (World.rangeAt_setCells_same _ _ _ _ (by rw [bvs_len]; exact HT.out)) Tryz.underlying238 rfl (by rw [size144, bvs_len])
  refine bodyPost_ret (v := .agg (bvs z 16).toArray) (results_one (by rfl) _ _ _ _ (by rfl) hlv) rfl ⟨rfl, ?_⟩
  exact Writes.below HB.out (Writes.setCells (lo := w.heap.size) (hi := w.heap.size + 1) (Nat.le_refl _) (by omega) _ _ _ (Writes.refl _ _ _)) (Nat.le_refl _)
theorem row1_of_own {w : World} {base n : Nat} {v : Value} {z : Nat → Int} (h : w.ownsRow base 5 1 v n (bvs z n)) (hn : 0 < n) : ∃ g cap, v = .slice (some ⟨g, 0, none⟩) n cap ∧ base ≤ g ∧ g < w.heap.size ∧ Row1 w g 0 n z := by
  rcases h.2 with ⟨rfl, h0⟩ | ⟨g, cap, cur, rfl, hbg, hg, hnc, hcm, hcs, htake⟩
  · omega
  · have hlt : g < w.heap.size := by
      obtain ⟨hlt, _⟩ := Array.getElem?_eq_some_iff.1 hg
      exact hlt
    refine ⟨g, cap, rfl, hbg, hlt, fun i hi => ?_, fun i hi => h.frozenAt _⟩
    have := h.cellAt i (by omega)
    rw [Nat.zero_add, this]
    simp [bvs, hi]
theorem rowIs_setCells {b : Nat} {t : TypeId} {n : Nat} : ∀ (vs : List Value) (o : Nat) (w : World) (f : Nat → Value), w.rowIs b t n f → (w.setCells b o vs).rowIs b t n (fun j => if o ≤ j ∧ j < o + vs.length then vs.getD (j - o) undef else f j)
  | [], o, w, f, h => h.congr fun j _ => by rw [if_neg (by simp)]
  | v :: r, o, w, f, h => by
    rw [World.setCells]
    refine (rowIs_setCells r (o + 1) _ _ (h.set o v)).congr fun j _ => ?_
    by_cases e : j = o
    · subst e
      rw [if_neg (by omega), if_pos rfl, if_pos (by simp)]
      simp
    · by_cases c : o + 1 ≤ j ∧ j < o + 1 + r.length
      · rw [if_pos c, if_pos (by simp; omega)]
        obtain ⟨q, hq⟩ : ∃ q, j - o = q + 1 := ⟨j - o - 1, by omega⟩
        rw [hq, show j - (o + 1) = q by omega]
        simp
      · rw [if_neg c, if_neg e, if_neg (by simp; omega)]
theorem rowIs_far {w : World} {b b' o : Nat} {t : TypeId} {n : Nat} {f : Nat → Value} (vs : List Value) (h : w.rowIs b t n f) (hb : b ≠ b') : (w.setCells b' o vs).rowIs b t n f :=
  h.of_block ((Writes.setCells (lo := b') (hi := b' + 1) (Nat.le_refl _) (by omega) vs o w (Writes.refl _ _ _)).block b h.lt (by omega))
theorem row_range {w : World} {b : Nat} {t : TypeId} {n : Nat} {z : Nat → Int} (h : w.rowIs b t n (fun i => .int .u8 (z i))) : w.rangeAt b 0 (bvs z n) := fun j v hv => by
  obtain ⟨hj, rfl⟩ := bvs_get _ _ _ _ hv
  rw [Nat.zero_add]; exact h.cell hj
theorem row_there {w : World} {b : Nat} {t : TypeId} {n : Nat} {f : Nat → Value} (h : w.rowIs b t n f) {o m : Nat} (hm : o + m ≤ n) : w.there b o m := fun j hj => ⟨by rw [h.cell (by omega)]; rfl, h.frozen _⟩
/-- The first k sectors of a sheet are laid. -/
def fz (z : Nat → Int) (k i : Nat) : Int := if i < 16 * k then z i else 0
theorem bvs_getD (z : Nat → Int) (n j : Nat) (h : j < n) : (bvs z n).getD j undef = .int .u8 (z j) := by simp [bvs, h]
theorem fz_step {w : World} {b : Nat} {z : Nat → Int} {k : Nat} (hk : k < 3) (h : w.rowIs b 241 48 (fun i => .int .u8 (fz z k i))) : (w.setCells b (16 * k) (bvs (fun i => z (16 * k + i)) 16)).rowIs b 241 48 (fun i => .int .u8 (fz z (k + 1) i)) := by
  refine (rowIs_setCells _ (16 * k) w _ h).congr fun j hj => ?_
  rw [bvs_len]
  by_cases c : 16 * k ≤ j ∧ j < 16 * k + 16
  · rw [if_pos c, bvs_getD _ _ _ (by omega)]
    have : 16 * k + (j - 16 * k) = j := by omega
    simp only [fz, this]
    rw [if_pos (by omega)]
  · rw [if_neg c]
    simp only [fz]
    congr 1
    by_cases d : j < 16 * k
    · rw [if_pos d, if_pos (by omega)]
    · rw [if_neg d, if_neg (by omega)]
set_option maxHeartbeats 800000 in
theorem sheetOf_any (z : Nat → Int) (a : Option Addr) (cap : Nat) (w : World) (hcap : 48 ≤ cap) (h : BytesAt w a 48 z) :
    Calls Tryz.prog 209 #[.slice a 48 cap] w fun e w' => e = .returned (.agg (bvs z 48).toArray) ∧ Below w.heap.size w w' := by
  obtain ⟨b, off, rfl, hbl, hc⟩ : ∃ b off, a = some ⟨b, off, none⟩ ∧ b < w.heap.size ∧ ∀ i, i < 48 → w.cell? ⟨b, off + i, none⟩ = some (.int .u8 (z i)) := by
    rcases h with h | h
    · omega
    · exact h
  have HC : Hid (∀ i, i < 48 → w.cell? ⟨b, off + i, none⟩ = some (.int .u8 (z i))) := hc
  clear h hc
  go_enter Tryz.func209, Tryz.ntmps209
  go_wp2_with fail
  go_loopw [4, 5] (fun _ i wr => ∃ k : Nat, k ≤ 3 ∧ i = .int .i64 k ∧ Below w.heap.size w wr ∧ wr.rowIs (w.heap.size + 1) 241 48 (fun i => .int .u8 (fz z k i)) ∧ wr.rowIs w.heap.size 241 48 (fun _ => .int .u8 0)) (fun _ i _ => 3 - (intOf i).toNat)
  case atStart =>
    refine ⟨0, by omega, rfl, ((Below.refl _ _).alloc (Nat.le_refl _) _).alloc (by simp) _, ?_, ?_⟩
    · have h := World.rowIs_alloc (w.alloc (.cells (zeros 48).toArray 241)) (zeros 48).toArray 241 (fun i => .int .u8 (fz z 0 i)) (fun i hi => by
        have hi' : i < 48 := by rw [zeros_size] at hi; exact hi
        rw [zeros_get _ _ hi']; simp [fz])
      rw [World.size_alloc] at h
      exact h
    · refine World.rowIs.alloc ?_ _
      exact World.rowIs_alloc w (zeros 48).toArray 241 (fun _ => .int .u8 0) (fun i hi => by
        have hi' : i < 48 := by rw [zeros_size] at hi; exact hi
        rw [zeros_get _ _ hi'])
  case round =>
    obtain ⟨k, hk, rfl, hb, hr, hr0⟩ := hrel
    by_cases hlt : k < 3
    · have h1 : ¬ cap = 0 := by omega
      have h2 : ¬ cap = 16 := by omega
      have h3 : ¬ cap = 32 := by omega
      have hk3 : k = 0 ∨ k = 1 ∨ k = 2 := by omega
      have HR : Hid (wr.rowIs (w.heap.size + 1) 241 48 (fun i => .int .u8 (fz z k i))) := hr
      have HR0 : Hid (wr.rowIs w.heap.size 241 48 (fun _ => .int .u8 0)) := hr0
      have HB : Hid (Below w.heap.size w wr) := hb
      clear hr hr0 hb
      have HX : Hid (∀ m n', m + n' ≤ 48 → BytesAt wr (some ⟨b, off + m, none⟩) n' (fun i => z (m + i))) := fun m n' hm =>
        .inr ⟨b, off + m, rfl, by have := HB.out.size; omega, fun i hi => by
          rw [HB.out.cell (p := ⟨b, _, none⟩) hbl, Nat.add_assoc]; exact HC.out (m + i) (by omega)⟩
      rcases hk3 with rfl | rfl | rfl
      · go_wp2_with fail
        refine (sectorOf_any 48 (fun i => z (0 + i)) _ _ wr (by omega) (HX.out 0 48 (by omega))).mono ?_
        rintro e w1 ⟨rfl, hb1⟩
        have hsz := HR.out.lt
        have hsz0 := HR0.out.lt
        have HR1 : Hid (w1.rowIs (w.heap.size + 1) 241 48 (fun i => .int .u8 (fz z 0 i))) := HR.out.of_block (hb1.block _ hsz)
        have HR2 : Hid (w1.rowIs w.heap.size 241 48 (fun _ => .int .u8 0)) := HR0.out.of_block (hb1.block _ hsz0)
        have HB1 : Hid (Below w.heap.size w w1) := below_then HB.out hb1
        clear hb1 hsz hsz0
        go_wp2_with (refine wpList_store_mid (by rfl) 238 (.tmp 14) (.tmp 13) (by rfl) (w.heap.size + 1) 0 (bvs (fun i => z (0 + i)) 16).toArray (by rfl) (by rfl) ?_ ?_ ?_ ?_)
        · rw [bvs_size]; exact row_there HR1.out (by omega)
        · rw [size144, bvs_size]
        · exact all_oneCell_toArray (bvs_one _ _)
        go_roundw
        case rel =>
          refine ⟨1, by omega, rfl, ?_, fz_step (k := 0) (by omega) HR1.out, rowIs_far _ HR2.out (by omega)⟩
          exact Writes.below HB1.out (Writes.setCells (lo := w.heap.size) (hi := w.heap.size + 2) (by omega) (by omega) _ _ _ (Writes.refl _ _ _)) (Nat.le_refl _)
        case measure => simp [intOf]
      · go_wp2_with fail
        refine (sectorOf_any 32 (fun i => z (16 + i)) _ _ wr (by omega) (HX.out 16 32 (by omega))).mono ?_
        rintro e w1 ⟨rfl, hb1⟩
        have hsz := HR.out.lt
        have hsz0 := HR0.out.lt
        have HR1 : Hid (w1.rowIs (w.heap.size + 1) 241 48 (fun i => .int .u8 (fz z 1 i))) := HR.out.of_block (hb1.block _ hsz)
        have HR2 : Hid (w1.rowIs w.heap.size 241 48 (fun _ => .int .u8 0)) := HR0.out.of_block (hb1.block _ hsz0)
        have HB1 : Hid (Below w.heap.size w w1) := below_then HB.out hb1
        clear hb1 hsz hsz0
        go_wp2_with (refine wpList_store_mid (by rfl) 238 (.tmp 14) (.tmp 13) (by rfl) (w.heap.size + 1) 16 (bvs (fun i => z (16 + i)) 16).toArray (by rfl) (by rfl) ?_ ?_ ?_ ?_)
        · rw [bvs_size]; exact row_there HR1.out (by omega)
        · rw [size144, bvs_size]
        · exact all_oneCell_toArray (bvs_one _ _)
        go_roundw
        case rel =>
          refine ⟨2, by omega, rfl, ?_, fz_step (k := 1) (by omega) HR1.out, rowIs_far _ HR2.out (by omega)⟩
          exact Writes.below HB1.out (Writes.setCells (lo := w.heap.size) (hi := w.heap.size + 2) (by omega) (by omega) _ _ _ (Writes.refl _ _ _)) (Nat.le_refl _)
        case measure => simp [intOf]
      · go_wp2_with fail
        refine (sectorOf_any 16 (fun i => z (32 + i)) _ _ wr (by omega) (HX.out 32 16 (by omega))).mono ?_
        rintro e w1 ⟨rfl, hb1⟩
        have hsz := HR.out.lt
        have hsz0 := HR0.out.lt
        have HR1 : Hid (w1.rowIs (w.heap.size + 1) 241 48 (fun i => .int .u8 (fz z 2 i))) := HR.out.of_block (hb1.block _ hsz)
        have HR2 : Hid (w1.rowIs w.heap.size 241 48 (fun _ => .int .u8 0)) := HR0.out.of_block (hb1.block _ hsz0)
        have HB1 : Hid (Below w.heap.size w w1) := below_then HB.out hb1
        clear hb1 hsz hsz0
        go_wp2_with (refine wpList_store_mid (by rfl) 238 (.tmp 14) (.tmp 13) (by rfl) (w.heap.size + 1) 32 (bvs (fun i => z (32 + i)) 16).toArray (by rfl) (by rfl) ?_ ?_ ?_ ?_)
        · rw [bvs_size]; exact row_there HR1.out (by omega)
        · rw [size144, bvs_size]
        · exact all_oneCell_toArray (bvs_one _ _)
        go_roundw
        case rel =>
          refine ⟨3, by omega, rfl, ?_, fz_step (k := 2) (by omega) HR1.out, rowIs_far _ HR2.out (by omega)⟩
          exact Writes.below HB1.out (Writes.setCells (lo := w.heap.size) (hi := w.heap.size + 2) (by omega) (by omega) _ _ _ (Writes.refl _ _ _)) (Nat.le_refl _)
        case measure => simp [intOf]
    · have hkn : k = 3 := by omega
      have HR : Hid (wr.rowIs (w.heap.size + 1) 241 48 (fun i => .int .u8 (z i))) := hr.congr fun i hi => by subst hkn; simp [fz]; omega
      have HR0 : Hid (wr.rowIs w.heap.size 241 48 (fun _ => .int .u8 0)) := hr0
      have HB : Hid (Below w.heap.size w wr) := hb
      clear hr hr0 hb
      go_wp2_with (first | (refine wpList_load_mid (by rfl) 241 (.tmp 3) (by rfl) (w.heap.size + 1) 0 (by rfl) (bvs z 48) _ (row_range HR.out) Tryz.underlying241 rfl (by rw [size147, bvs_len]) ?_) | (refine wpList_store_mid (by rfl) 241 (.tmp 2) (.tmp 16) (by rfl) w.heap.size 0 (bvs z 48).toArray (by rfl) (by rfl) ?_ ?_ ?_ ?_))
      · rw [bvs_size]; exact row_there HR0.out (by omega)
      · rw [size147, bvs_size]
      · exact all_oneCell_toArray (bvs_one _ _)
      have hlv : (loadVar 241 ⟨w.heap.size, 0, none⟩).run Tryz.prog (wr.setCells w.heap.size 0 (bvs z 48)) = .ok (.agg (bvs z 48).toArray) (wr.setCells w.heap.size 0 (bvs z 48)) :=
        run_loadVar_mid _ _ _ 241 (bvs z 48) _ (World.rangeAt_setCells_same _ _ _ _ (by rw [bvs_len]; exact row_there HR0.out (by omega))) Tryz.underlying241 rfl (by rw [size147, bvs_len])
      refine bodyPost_ret (v := .agg (bvs z 48).toArray) (results_one (by rfl) _ _ _ _ (by rfl) hlv) rfl ⟨rfl, ?_⟩
      exact Writes.below HB.out (Writes.setCells (lo := w.heap.size) (hi := w.heap.size + 1) (Nat.le_refl _) (by omega) _ _ _ (Writes.refl _ _ _)) (Nat.le_refl _)
theorem bvs_cut (z : Nat → Int) (k : Nat) (hk : k < 3) : List.take 16 (List.drop (k * 16) (bvs z 48)) = bvs (fun i => z (16 * k + i)) 16 := by
  apply List.ext_getElem?
  intro i
  by_cases h : i < 16
  · have h1 : k * 16 + i < 48 := by omega
    simp [bvs, h, h1, Nat.mul_comm]
  · have h1 : min 16 (48 - k * 16) ≤ i := by omega
    simp [bvs, h, h1]
theorem run_index147 (z : Nat → Int) (k : Nat) (hk : k < 3) (w : World) : (Instr.index 241 (.agg (bvs z 48).toArray) (.int .i64 (k : Int))).run Tryz.prog w = .ok (.agg (bvs (fun i => z (16 * k + i)) 16).toArray) w := by
  have hq := size144
  have hu := Tryz.underlying241
  have hu2 := Tryz.underlying238
  cases hi : Tryz.prog.info? 238 with
  | none => simp [hi] at hq
  | some i =>
    have hs : i.size = 16 := by simpa [hi] using hq
    have hc := bvs_cut z k hk
    simp [Instr.index, asIntOf, Sem.run_bind, run_underlying hu, sizeOf, typeInfo, hi, hs, part, hc, hk]
theorem store_new (wr : World) (f : Nat → Int) : (storeCells ⟨wr.heap.size, 0, none⟩ (bvs f 16)).run Tryz.prog (wr.alloc (.cells #[.int .u8 0, .int .u8 0, .int .u8 0, .int .u8 0, .int .u8 0, .int .u8 0, .int .u8 0, .int .u8 0, .int .u8 0, .int .u8 0, .int .u8 0, .int .u8 0, .int .u8 0, .int .u8 0, .int .u8 0, .int .u8 0] 238)) = .ok () (wr.alloc (.cells (bvs f 16).toArray 238)) :=
  run_storeCells_new (P := Tryz.prog) wr 238 (zeros 16).toArray (bvs f 16).toArray (by rw [size144, bvs_size]) (by rw [bvs_size]; rfl) (all_oneCell_toArray (bvs_one _ _))
theorem bvs_app (z : Nat → Int) (m n : Nat) : bvs z m ++ bvs (fun i => z (m + i)) n = bvs z (m + n) := by
  simp only [bvs, List.range_add, List.map_append, List.map_map]
  rfl
set_option maxHeartbeats 800000 in
theorem shBytes_any (z : Nat → Int) (w : World) :
    Calls Tryz.prog 208 #[.agg (bvs z 48).toArray] w fun e w' => ∃ g cap, e = .returned (.slice (some ⟨g, 0, none⟩) 48 cap) ∧ Below w.heap.size w w' ∧ w.heap.size ≤ g ∧ g < w'.heap.size ∧ Row1 w' g 0 48 z ∧ 48 ≤ cap := by
  obtain ⟨i0, hi, hz0, hz1, hz2⟩ := info_parts info5
  have HI : Hid (Tryz.prog.info? 5 = some i0 ∧ i0.zero = some (.int .u8 0) ∧ i0.size = 1 ∧ i0.bytes = 1) := ⟨hi, hz0, hz1, hz2⟩
  clear hi hz0 hz1 hz2
  have HR : Hid ((w.alloc (.cells (bvs z 48).toArray 241)).rangeAt w.heap.size 0 (bvs z 48)) := range_block (heap_alloc_last _ _)
  go_enter Tryz.func208, Tryz.ntmps208
  go_wp2_with (refine wpList_load_mid (by rfl) 241 (.tmp 1) (by rfl) w.heap.size 0 (by rfl) (bvs z 48) _ HR.out Tryz.underlying241 rfl (by rw [size147, bvs_len]) ?_)
  go_loopw [3, 5, 7] (fun v _ i wr => ∃ k : Nat, k ≤ 3 ∧ i = .int .i64 k ∧ Below w.heap.size w wr ∧ wr.ownsRow (w.heap.size + 1) 5 1 v (16 * k) (bvs z (16 * k)) ∧ w.heap.size + 1 ≤ wr.heap.size) (fun _ _ i _ => 3 - (intOf i).toNat)
  case atStart => exact ⟨0, by omega, rfl, below_new _ _, World.ownsRow_nil _ _ _ _, by simp⟩
  case round =>
    obtain ⟨k, hk, rfl, hb, ho, hs⟩ := hrel
    by_cases hlt : k < 3
    · have HO : Hid (wr.ownsRow (w.heap.size + 1) 5 1 u3 (16 * k) (bvs z (16 * k))) := ho
      have HB : Hid (Below w.heap.size w wr) := hb
      have hk3 : k = 0 ∨ k = 1 ∨ k = 2 := by omega
      clear ho hb
      rcases hk3 with rfl | rfl | rfl
      · have hix : ∀ w, (Instr.index 241 (.agg (bvs z 48).toArray) (.int .i64 0)).run Tryz.prog w = .ok (.agg (bvs z 16).toArray) w := fun w => (run_index147 z 0 (by omega) w).trans (by simp)
        have hst := store_new wr z
        go_wp2_with (at_builtin; refine wpList_append_own _ rfl (.tmp 10) (.tmp 11) 27 rfl (w.heap.size + 1) 5 i0 (.int .u8 0) 1 1 Tryz.underlying27 HI.out.1 HI.out.2.1 HI.out.2.2.1 HI.out.2.2.2 rfl (by decide) _ 0 (bvs z 0) rfl (HO.out.alloc _) ⟨wr.heap.size, 0, none⟩ 16 16 (bvs z 16) rfl ?c1 ?c2 (bvs_one _ _) ?c3 ?c4 ?c5 ?_)
        case c1 => rw [bvs_len]
        case c2 =>
          intro j u hu
          rw [Addr.add_mid]
          exact range_block (heap_alloc_last _ _) j u hu
        case c3 => unfold maxLen; omega
        case c4 => omega
        case c5 => simp; omega
        intro v1 w1 ho1 hg1 _
        have HO1 : Hid (w1.ownsRow (w.heap.size + 1) 5 1 v1 (16 * 1) (bvs z (16 * 1))) := by
          have e : bvs z 0 ++ bvs z 16 = bvs z (16 * 1) := bvs_app z 0 16
          rw [← e]; exact ho1
        have HB1 : Hid (Below w.heap.size w w1) := Below.grown (HB.out.alloc HB.out.size _) hg1 (by simp; have := HB.out.size; omega) (fun q hq => by have := (HO.out.lt q hq).1; omega)
        have HS1 : Hid (w.heap.size + 1 ≤ w1.heap.size) := by have := hg1.size; simp at this; show w.heap.size + 1 ≤ w1.heap.size; omega
        clear ho1 hg1 hix hst
        go_wp2_with fail
        go_roundw
        case rel => exact ⟨1, by omega, rfl, HB1.out, HO1.out, HS1.out⟩
        case measure => simp [intOf]
      · have hix : ∀ w, (Instr.index 241 (.agg (bvs z 48).toArray) (.int .i64 1)).run Tryz.prog w = .ok (.agg (bvs (fun i => z (16 + i)) 16).toArray) w := fun w => (run_index147 z 1 (by omega) w).trans (by simp)
        have hst := store_new wr (fun i => z (16 + i))
        go_wp2_with (at_builtin; refine wpList_append_own _ rfl (.tmp 10) (.tmp 11) 27 rfl (w.heap.size + 1) 5 i0 (.int .u8 0) 1 1 Tryz.underlying27 HI.out.1 HI.out.2.1 HI.out.2.2.1 HI.out.2.2.2 rfl (by decide) _ 16 (bvs z 16) rfl (HO.out.alloc _) ⟨wr.heap.size, 0, none⟩ 16 16 (bvs (fun i => z (16 + i)) 16) rfl ?c1 ?c2 (bvs_one _ _) ?c3 ?c4 ?c5 ?_)
        case c1 => rw [bvs_len]
        case c2 =>
          intro j u hu
          rw [Addr.add_mid]
          exact range_block (heap_alloc_last _ _) j u hu
        case c3 => unfold maxLen; omega
        case c4 => omega
        case c5 => simp; omega
        intro v1 w1 ho1 hg1 _
        have HO1 : Hid (w1.ownsRow (w.heap.size + 1) 5 1 v1 (16 * 2) (bvs z (16 * 2))) := by
          have e : bvs z 16 ++ bvs (fun i => z (16 + i)) 16 = bvs z (16 * 2) := bvs_app z 16 16
          rw [← e]; exact ho1
        have HB1 : Hid (Below w.heap.size w w1) := Below.grown (HB.out.alloc HB.out.size _) hg1 (by simp; have := HB.out.size; omega) (fun q hq => by have := (HO.out.lt q hq).1; omega)
        have HS1 : Hid (w.heap.size + 1 ≤ w1.heap.size) := by have := hg1.size; simp at this; show w.heap.size + 1 ≤ w1.heap.size; omega
        clear ho1 hg1 hix hst
        go_wp2_with fail
        go_roundw
        case rel => exact ⟨2, by omega, rfl, HB1.out, HO1.out, HS1.out⟩
        case measure => simp [intOf]
      · have hix : ∀ w, (Instr.index 241 (.agg (bvs z 48).toArray) (.int .i64 2)).run Tryz.prog w = .ok (.agg (bvs (fun i => z (32 + i)) 16).toArray) w := fun w => (run_index147 z 2 (by omega) w).trans (by simp)
        have hst := store_new wr (fun i => z (32 + i))
        go_wp2_with (at_builtin; refine wpList_append_own _ rfl (.tmp 10) (.tmp 11) 27 rfl (w.heap.size + 1) 5 i0 (.int .u8 0) 1 1 Tryz.underlying27 HI.out.1 HI.out.2.1 HI.out.2.2.1 HI.out.2.2.2 rfl (by decide) _ 32 (bvs z 32) rfl (HO.out.alloc _) ⟨wr.heap.size, 0, none⟩ 16 16 (bvs (fun i => z (32 + i)) 16) rfl ?c1 ?c2 (bvs_one _ _) ?c3 ?c4 ?c5 ?_)
        case c1 => rw [bvs_len]
        case c2 =>
          intro j u hu
          rw [Addr.add_mid]
          exact range_block (heap_alloc_last _ _) j u hu
        case c3 => unfold maxLen; omega
        case c4 => omega
        case c5 => simp; omega
        intro v1 w1 ho1 hg1 _
        have HO1 : Hid (w1.ownsRow (w.heap.size + 1) 5 1 v1 (16 * 3) (bvs z (16 * 3))) := by
          have e : bvs z 32 ++ bvs (fun i => z (32 + i)) 16 = bvs z (16 * 3) := bvs_app z 32 16
          rw [← e]; exact ho1
        have HB1 : Hid (Below w.heap.size w w1) := Below.grown (HB.out.alloc HB.out.size _) hg1 (by simp; have := HB.out.size; omega) (fun q hq => by have := (HO.out.lt q hq).1; omega)
        have HS1 : Hid (w.heap.size + 1 ≤ w1.heap.size) := by have := hg1.size; simp at this; show w.heap.size + 1 ≤ w1.heap.size; omega
        clear ho1 hg1 hix hst
        go_wp2_with fail
        go_roundw
        case rel => exact ⟨3, by omega, rfl, HB1.out, HO1.out, HS1.out⟩
        case measure => simp [intOf]
    · have hkn : k = 3 := by omega
      subst hkn
      have HO : Hid (wr.ownsRow (w.heap.size + 1) 5 1 u3 48 (bvs z 48)) := ho
      clear ho
      go_wp2_with fail
      go_ret
      obtain ⟨g, cap, rfl, h1, h2, h3⟩ := row1_of_own HO.out (by decide)
      refine ⟨g, cap, rfl, hb, by omega, h2, h3, ?_⟩
      rcases HO.out.2 with ⟨h, _⟩ | ⟨_, _, _, h, _, _, h9, _⟩
      · cases h
      · simp at h; omega
theorem info147 : (Tryz.prog.info? 241).map (fun i => (i.zero, i.size, i.bytes)) = some (some (.agg (zeros 48).toArray), 48, 48) := by kernel_rfl
theorem own_below {W wq : World} {B n s : Nat} {e : TypeId} {v : Value} {xs : List Value} (h : W.ownsRow B e s v n xs) (hb : Below W.heap.size W wq) : wq.ownsRow B e s v n xs :=
  h.kept (row := none) ⟨hb.os, hb.tape, hb.output, hb.size, fun q hq _ => hb.block q hq⟩ (by cases hv : v.ownBlock <;> simp)
theorem fold_get : ∀ (l : List Value) (k : Nat) (acc : Array Value) (i : Nat), ((l.zipIdx k).foldl (fun (cs : Array Value) (p : Value × Nat) => cs.setIfInBounds p.2 p.1) acc)[i]? = if k ≤ i ∧ i < k + l.length ∧ i < acc.size then l[i - k]? else acc[i]?
  | [], k, acc, i => by rw [if_neg (by simp; omega)]; rfl
  | v :: r, k, acc, i => by
    rw [List.zipIdx_cons, List.foldl_cons, fold_get r (k + 1)]
    simp only [Array.size_setIfInBounds]
    by_cases c : k + 1 ≤ i ∧ i < k + 1 + r.length ∧ i < acc.size
    · rw [if_pos c, if_pos (by simp; omega)]
      obtain ⟨q, hq⟩ : ∃ q, i - k = q + 1 := ⟨i - k - 1, by omega⟩
      rw [hq, show i - (k + 1) = q by omega]
      rfl
    · rw [if_neg c, Array.getElem?_setIfInBounds]
      by_cases e : k = i
      · subst e
        by_cases d : k < acc.size
        · rw [if_pos rfl, if_pos d, if_pos (by simp; omega)]
          simp
        · rw [if_pos rfl, if_neg d, if_neg (by omega), Array.getElem?_eq_none (by omega)]
      · rw [if_neg e, if_neg (by simp; omega)]
theorem fold_all (c acc : Array Value) (h : c.size = acc.size) (m : Nat) (hm : m = c.size) : c.zipIdx.foldl (fun (cs : Array Value) (p : Value × Nat) => cs.setIfInBounds p.2 p.1) acc 0 m = c := by
  obtain rfl : m = c.zipIdx.size := by simp [hm]
  apply Array.ext_getElem?
  intro i
  rw [← Array.foldl_toList, Array.toList_zipIdx, fold_get]
  by_cases d : i < acc.size
  · rw [if_pos ⟨by omega, by simpa using (by omega : i < 0 + c.size), d⟩]
    simp
  · rw [if_neg (by omega), Array.getElem?_eq_none (by omega), Array.getElem?_eq_none (by omega)]
theorem run_bs147 (cs : Array Value) (hc : cs.size = 48) (w : World) : (Instr.buildSlice 226 1 #[(0, .agg cs)]).run Tryz.prog w = .ok (.slice (some ⟨w.heap.size, 0, none⟩) 1 1) (w.alloc (.cells cs 241)) := by
  obtain ⟨i, hi, hz, hs, hb⟩ := info_parts info147
  simp [Instr.buildSlice, Sem.run_bind, run_underlying Tryz.underlying226, sizeOf, typeInfo, hi, hs, zeroValue, hz, Instr.fill, Value.cells, hc, newRow]
  rw [fold_all cs _ (by simp [hc]) 48 hc.symm]
/-- 'one sheet as a slice', as a step of a walk. -/
theorem wpList_bs147 {ops : Array Oper} {rest : List Oper} {op : Oper} {a : Act} {w : World} {Q : Exit → Act → World → Prop} (hgd : op.guard = none) (x : Operand) (ho : op.op = .buildSlice 226 1 #[(0, x)])
    (cs : Array Value) (hx : a.eval x = .agg cs) (hc : cs.size = 48) (h : wpList Tryz.prog ops Q rest (a.put op.dst (.slice (some ⟨w.heap.size, 0, none⟩) 1 1)) (w.alloc (.cells cs 241))) : wpList Tryz.prog ops Q (op :: rest) a w :=
  wpList_plain hgd fun _ hK => by
    unfold Oper.wp execOp
    simp only [ho, hx, List.map_toArray, List.map_cons, List.map_nil, run_bs147 cs hc w, Sem.run_bind, Sem.run_pure, Result.andThen_ok]
    exact hK _ _ h
/-- The cells of n sheets. -/
def shl (Z : Nat → Nat → Int) : Nat → List Value
  | 0 => []
  | k + 1 => shl Z k ++ bvs (Z k) 48
theorem shl_len (Z : Nat → Nat → Int) : ∀ n, (shl Z n).length = n * 48
  | 0 => rfl
  | k + 1 => by simp only [shl, List.length_append, shl_len Z k, bvs_len]; omega
theorem zeros48_cells : (Value.agg (zeros 48).toArray).cells.size = 48 := rfl
set_option maxHeartbeats 800000 in
theorem sheetsOf_any (n : Nat) (L : Nat → Nat) (Z : Nat → Nat → Int) (a : Option Addr) (cap : Nat) (w : World) (hn : n ≤ 8) (hL : ∀ i, i < n → L i = 48) (h : PagesAt w a n L Z) :
    Calls Tryz.prog 194 #[.slice a n cap] w fun e w' => ∃ v, e = .returned v ∧ Below w.heap.size w w' ∧ w'.ownsRow w.heap.size 241 48 v n (shl Z n) := by
  obtain ⟨i0, hi, hz0, hz1, hz2⟩ := info_parts info147
  have HI : Hid (Tryz.prog.info? 241 = some i0 ∧ i0.zero = some (.agg (zeros 48).toArray) ∧ i0.size = 48 ∧ i0.bytes = 48) := ⟨hi, hz0, hz1, hz2⟩
  have HL : Hid (∀ i, i < n → L i = 48) := hL
  have HA : Hid (PagesAt w a n L Z) := h
  clear hi hz0 hz1 hz2 hL h
  go_enter Tryz.func194, Tryz.ntmps194
  go_wp2_with fail
  go_loopw [3, 5, 8] (fun v _ i wr => ∃ k : Nat, k ≤ n ∧ i = .int .i64 k ∧ Below w.heap.size w wr ∧ wr.ownsRow w.heap.size 241 48 v k (shl Z k)) (fun _ _ i _ => n - (intOf i).toNat)
  case atStart => exact ⟨0, by omega, rfl, Below.refl _ _, World.ownsRow_nil _ _ _ _⟩
  case round =>
    obtain ⟨k, hk, rfl, hb, ho⟩ := hrel
    by_cases hlt : k < n
    · rcases HA.out.below hb with h | ⟨b, off, rfl, hl, hc⟩
      · omega
      obtain ⟨ai, ci, h1, hy, hcap⟩ := hc k hlt
      rw [HL.out k hlt] at h1 hy hcap
      have HY : Hid (BytesAt wr ai 48 (Z k)) := hy
      have HCP : Hid (48 ≤ ci) := hcap
      have HO : Hid (wr.ownsRow w.heap.size 241 48 u3 k (shl Z k)) := ho
      have HB : Hid (Below w.heap.size w wr) := hb
      clear hc hy hcap ho hb
      go_wp2_with fail
      refine (sheetOf_any (Z k) ai ci wr HCP.out HY.out).mono ?_
      rintro e w1 ⟨rfl, hb1⟩
      have HO1 : Hid (w1.ownsRow w.heap.size 241 48 u3 k (shl Z k)) := own_below HO.out hb1
      have HB1 : Hid (Below w.heap.size w w1) := below_then HB.out hb1
      clear hb1
      go_wp2_with (first | (at_builtin; refine wpList_append_own _ rfl (.tmp 12) (.tmp 15) 226 rfl w.heap.size 241 i0 (.agg (zeros 48).toArray) 48 48 Tryz.underlying226 HI.out.1 HI.out.2.1 HI.out.2.2.1 HI.out.2.2.2 zeros48_cells (by decide) _ k (shl Z k) rfl (HO1.out.alloc _) ⟨w1.heap.size, 0, none⟩ 1 1 (bvs (Z k) 48) rfl ?c1 ?c2 (bvs_one _ _) ?c3 ?c4 ?c5 ?_) | (refine wpList_bs147 (by rfl) (.tmp 14) (by rfl) (bvs (Z k) 48).toArray (by rfl) (bvs_size _ _) ?_))
      case c1 => rw [bvs_len]
      case c2 =>
        intro j u hu
        rw [Addr.add_mid]
        exact range_block (heap_alloc_last _ _) j u hu
      case c3 => unfold maxLen; omega
      case c4 => omega
      case c5 => have := HB1.out.size; rw [World.size_alloc]; omega
      intro v2 w2 ho2 hg2 _
      have HO2 : Hid (w2.ownsRow w.heap.size 241 48 v2 (k + 1) (shl Z (k + 1))) := ho2
      have HB2 : Hid (Below w.heap.size w w2) := Below.grown (HB1.out.alloc HB1.out.size _) hg2 (by rw [World.size_alloc]; have := HB1.out.size; omega) (fun q hq => (HO1.out.lt q hq).1)
      clear ho2 hg2
      go_wp2_with fail
      go_roundw
      case rel => exact ⟨k + 1, hlt, by go_num, HB2.out, HO2.out⟩
      case measure => simp [intOf]; omega
    · have hkn : k = n := by omega
      have HO : Hid (wr.ownsRow w.heap.size 241 48 u3 n (shl Z n)) := by have h := ho; rw [hkn] at h; exact h
      clear ho
      go_wp2_with fail
      go_ret
      exact ⟨_, rfl, hb, HO.out⟩
theorem wpList_store_new {P : Program} {ops : Array Oper} {rest : List Oper} {op : Oper} {a : Act} {w : World} {Q : Exit → Act → World → Prop} (hgd : op.guard = none) (t : TypeId) (x y : Operand) (ho : op.op = .store t x y)
    (c cs : Array Value) (hx : a.eval x = .pointer (some ⟨w.heap.size, 0, none⟩)) (hy : a.eval y = .agg cs) (hi : (P.info? t).map (·.size) = some cs.size) (hc : c.size = cs.size) (h1 : cs.all (·.oneCell') = true)
    (h : wpList P ops Q rest (a.put op.dst undef) (w.alloc (.cells cs t))) : wpList P ops Q (op :: rest) a (w.alloc (.cells c t)) :=
  wpList_plain hgd fun _ hK => by
    unfold Oper.wp execOp
    simp only [ho, hx, hy, run_storeAt_new w t c cs hi hc h1, Sem.run_bind, Sem.run_pure, Result.andThen_ok]
    exact hK _ _ h
/-- The values of k slices of bytes. -/
def slv (g : Nat → Nat) (L : Nat → Nat) (c : Nat → Nat) (k : Nat) : List Value := (List.range k).map fun i => .slice (some ⟨g i, 0, none⟩) (L i) (c i)
theorem slv_get (g L c : Nat → Nat) (k i : Nat) (h : i < k) : (slv g L c k)[i]? = some (.slice (some ⟨g i, 0, none⟩) (L i) (c i)) := by simp [slv, h]
theorem slv_succ (g L c : Nat → Nat) (k : Nat) : slv g L c (k + 1) = slv g L c k ++ [.slice (some ⟨g k, 0, none⟩) (L k) (c k)] := by simp [slv, List.range_succ]
theorem slv_congr {g g' L c c' : Nat → Nat} {k : Nat} (h1 : ∀ i, i < k → g i = g' i) (h2 : ∀ i, i < k → c i = c' i) : slv g L c k = slv g' L c' k := by
  refine List.map_congr_left fun i hi => ?_
  rw [h1 i (List.mem_range.1 hi), h2 i (List.mem_range.1 hi)]
/-- k pages were appended to an empty list, all from block 'base' on. -/
def AP (base : Nat) (wr : World) (v : Value) (k : Nat) (L : Nat → Nat) (Z : Nat → Nat → Int) : Prop :=
  ∃ g c : Nat → Nat, wr.ownsRow base 27 1 v k (slv g L c k) ∧ (∀ i j, i < k → j < k → g i = g j → i = j) ∧
    ∀ i, i < k → base ≤ g i ∧ g i < wr.heap.size ∧ v.ownBlock ≠ some (g i) ∧ Row1 wr (g i) 0 (L i) (Z i) ∧ L i ≤ c i
theorem AP.nil (base : Nat) (w : World) (L : Nat → Nat) (Z : Nat → Nat → Int) : AP base w (.slice none 0 0) 0 L Z :=
  ⟨fun _ => 0, fun _ => 0, World.ownsRow_nil _ _ _ _, fun i j h => by omega, fun i h => by omega⟩
/-- A page that was just made is appended. -/
theorem AP.step {base G C g' cap' : Nat} {w1 w2 : World} {v : Value} {k : Nat} {L : Nat → Nat} {Z : Nat → Nat → Int} {o : Obj} {g c : Nat → Nat} (hj : ∀ i j, i < k → j < k → g i = g j → i = j)
    (hc : ∀ i, i < k → base ≤ g i ∧ g i < w1.heap.size ∧ v.ownBlock ≠ some (g i) ∧ Row1 w1 (g i) 0 (L i) (Z i) ∧ L i ≤ c i)
    (hG0 : base ≤ G) (hG1 : G < w1.heap.size) (hG2 : v.ownBlock ≠ some G) (hne : ∀ i, i < k → g i ≠ G) (hr : Row1 w1 G 0 (L k) (Z k)) (hC : L k ≤ C)
    (ho : w2.ownsRow base 27 1 (.slice (some ⟨g', 0, none⟩) (k + 1) cap') (k + 1) (slv g L c k ++ [.slice (some ⟨G, 0, none⟩) (L k) C]))
    (hg : (w1.alloc o).grownBy w2 v.ownBlock) (hl : v.ownBlock = some g' ∨ g' = w1.heap.size + 1) : AP base w2 (.slice (some ⟨g', 0, none⟩) (k + 1) cap') (k + 1) L Z := by
  have hsz : w1.heap.size + 1 ≤ w2.heap.size := by have := hg.size; rw [World.size_alloc] at this; exact this
  have keep : ∀ q, q < w1.heap.size → v.ownBlock ≠ some q → w2.heap[q]? = w1.heap[q]? := fun q hq hv => (hg.block q (by rw [World.size_alloc]; omega) (fun e => hv e.symm)).trans (Below.heap_alloc _ _ _ hq)
  have far : ∀ q, q < w1.heap.size → v.ownBlock ≠ some q → (Value.slice (some ⟨g', 0, none⟩) (k + 1) cap').ownBlock ≠ some q := fun q hq hv e => by
    simp only [Value.ownBlock, Option.some.injEq] at e
    rcases hl with hl | hl
    · exact hv (by rw [hl, e])
    · omega
  refine ⟨fun i => if i < k then g i else G, fun i => if i < k then c i else C, ?_, fun i j hi hj' e => ?_, fun i hi => ?_⟩
  · rw [slv_succ]
    simp only [Nat.lt_irrefl, if_false]
    rw [slv_congr (g' := g) (c' := c) (fun i hi => by simp [hi]) (fun i hi => by simp [hi])]
    exact ho
  · by_cases c1 : i < k <;> by_cases c2 : j < k <;> simp only [c1, c2, if_true, if_false] at e
    · exact hj i j c1 c2 e
    · exact absurd e (hne i c1)
    · exact absurd e.symm (hne j c2)
    · omega
  · by_cases c1 : i < k
    · simp only [c1, if_true]
      obtain ⟨h1, h2, h3, h4, h5⟩ := hc i c1
      exact ⟨h1, by omega, far _ h2 h3, h4.block (keep _ h2 h3), h5⟩
    · have : i = k := by omega
      subst this
      simp only [Nat.lt_irrefl, if_false]
      exact ⟨hG0, by omega, far _ hG1 hG2, hr.block (keep _ hG1 hG2), hC⟩
theorem AP.own {base : Nat} {w : World} {v : Value} {n : Nat} {L : Nat → Nat} {Z : Nat → Nat → Int} (h : AP base w v n L Z) : ∃ a cap, v = .slice a n cap ∧ n ≤ cap ∧ OwnP w base w.heap.size a n L Z := by
  obtain ⟨g, c, hown, hj, hc⟩ := h
  by_cases h0 : n = 0
  · subst h0
    rcases hown.2 with ⟨rfl, _⟩ | ⟨q, cap, cur, rfl, _, _, hcap, _⟩
    · exact ⟨none, 0, rfl, Nat.le_refl _, Nat.le_refl _, .inl rfl⟩
    · exact ⟨_, cap, rfl, hcap, Nat.le_refl _, .inl rfl⟩
  · rcases hown.2 with ⟨rfl, h1⟩ | ⟨q, cap, cur, rfl, hbq, hq, hcap, _⟩
    · omega
    · have hlt : q < w.heap.size := by
        obtain ⟨hlt, _⟩ := Array.getElem?_eq_some_iff.1 hq
        exact hlt
      refine ⟨_, cap, rfl, hcap, Nat.le_refl _, .inr ⟨q, 0, rfl, hbq, hlt, g, fun _ => 0, c, hj, fun i hi => ?_⟩⟩
      obtain ⟨h1, h2, h3, h4, h5⟩ := hc i hi
      refine ⟨fun e => h3 (by simp [Value.ownBlock, e]), h1, h2, ?_, h4, h5⟩
      rw [Nat.zero_add, hown.cellAt i (by omega), slv_get _ _ _ _ _ hi]
set_option maxHeartbeats 800000 in
theorem pagesOf_any (n : Nat) (Z : Nat → Nat → Int) (b cap : Nat) (w : World) (hn : n ≤ 8) (hbl : b < w.heap.size) (hr : ∀ i, i < n → w.rangeAt b (i * 48) (bvs (Z i) 48)) :
    Calls Tryz.prog 193 #[.slice (some ⟨b, 0, none⟩) n cap] w fun e w' => ∃ v, e = .returned v ∧ Below w.heap.size w w' ∧ AP w.heap.size w' v n (fun _ => 48) Z := by
  obtain ⟨i0, hi, hz0, hz1, hz2⟩ := info_parts info22
  have HI : Hid (Tryz.prog.info? 27 = some i0 ∧ i0.zero = some (.slice none 0 0) ∧ i0.size = 1 ∧ i0.bytes = 24) := ⟨hi, hz0, hz1, hz2⟩
  have HR : Hid (∀ i, i < n → w.rangeAt b (i * 48) (bvs (Z i) 48)) := hr
  clear hi hz0 hz1 hz2 hr
  go_enter Tryz.func193, Tryz.ntmps193
  go_wp2_with fail
  go_loopw [3, 5, 8] (fun v _ i wr => ∃ k : Nat, k ≤ n ∧ i = .int .i64 k ∧ Below w.heap.size w wr ∧ AP w.heap.size wr v k (fun _ => 48) Z) (fun _ _ i _ => n - (intOf i).toNat)
  case atStart => exact ⟨0, by omega, rfl, Below.refl _ _, AP.nil _ _ _ _⟩
  case round =>
    obtain ⟨k, hk, rfl, hb, ho⟩ := hrel
    by_cases hlt : k < n
    · have HO : Hid (AP w.heap.size wr u3 k (fun _ => 48) Z) := ho
      have HB : Hid (Below w.heap.size w wr) := hb
      have HRk : Hid (wr.rangeAt b (k * 48) (bvs (Z k) 48)) := fun j v hv => (hb.cell (p := ⟨b, _, none⟩) hbl).trans (HR.out k hlt j v hv)
      have hlt' : (k : Int) < (n : Int) := by omega
      clear ho hb
      go_wp2_with (first | (refine wpList_load_mid (by rfl) 241 (.tmp 10) (by rfl) b (k * 48) (by rfl) (bvs (Z k) 48) _ HRk.out Tryz.underlying241 rfl (by rw [size147, bvs_len]) ?_) | (refine wpList_store_new (by rfl) 241 (.tmp 5) (.tmp 11) (by rfl) (zeros 48).toArray (bvs (Z k) 48).toArray (by rfl) (by rfl) (by rw [size147, bvs_size]) (by rw [bvs_size, zeros_size]) (all_oneCell_toArray (bvs_one _ _)) ?_) | (refine wpList_load_mid (by rfl) 241 (.tmp 5) (by rfl) wr.heap.size 0 (by rfl) (bvs (Z k) 48) _ (range_block (heap_alloc_last _ _)) Tryz.underlying241 rfl (by rw [size147, bvs_len]) ?_))
      refine (shBytes_any (Z k) _).mono ?_
      rintro e w1 ⟨G, C, rfl, hb1, hG0, hG1, hrow, hC⟩
      rw [World.size_alloc] at hG0
      have hbw : Below wr.heap.size wr w1 := below_then (below_new _ _) hb1
      have hwr : w.heap.size ≤ wr.heap.size := HB.out.size
      have HB1 : Hid (Below w.heap.size w w1) := below_then HB.out hbw
      obtain ⟨g, c, hown, hj, hc⟩ := HO.out
      have HV : Hid (∀ q, u3.ownBlock = some q → w.heap.size ≤ q ∧ q < wr.heap.size) := fun q hq => hown.lt q hq
      have HOW : Hid (w1.ownsRow w.heap.size 27 1 u3 k (slv g (fun _ => 48) c k)) := own_below hown hbw
      have HJ : Hid (∀ i j, i < k → j < k → g i = g j → i = j) := hj
      have HCC : Hid (∀ i, i < k → w.heap.size ≤ g i ∧ g i < w1.heap.size ∧ u3.ownBlock ≠ some (g i) ∧ Row1 w1 (g i) 0 48 (Z i) ∧ 48 ≤ c i) := fun i hi => by
        obtain ⟨h1, h2, h3, h4, h5⟩ := hc i hi
        exact ⟨h1, Nat.lt_of_lt_of_le h2 hbw.size, h3, h4.block (hbw.block _ h2), h5⟩
      have HNE : Hid (∀ i, i < k → g i ≠ G) := fun i hi => by have := (hc i hi).2.1; omega
      have HG : Hid (w.heap.size ≤ G ∧ G < w1.heap.size ∧ u3.ownBlock ≠ some G ∧ Row1 w1 G 0 48 (Z k) ∧ 48 ≤ C) := ⟨by omega, hG1, fun e => by have := (hown.lt G e).2; omega, hrow, hC⟩
      clear hb1 hG0 hG1 hrow hC hbw hown hj hc HO HRk
      go_wp2_with (at_builtin; refine wpList_append_lies _ rfl (.tmp 12) (.tmp 15) 23 rfl w.heap.size 27 i0 (.slice none 0 0) 1 24 Tryz.underlying23 HI.out.1 HI.out.2.1 HI.out.2.2.1 HI.out.2.2.2 rfl (by decide) _ k (slv g (fun _ => 48) c k) rfl (HOW.out.alloc _) ⟨w1.heap.size, 0, none⟩ 1 1 [.slice (some ⟨G, 0, none⟩) 48 C] rfl rfl (cell_one_new _ _ _) ?c2 (by decide) ?c3 ?c4 ?c5 _ rfl ?_)
      case c2 => intro u hu; simp at hu; subst hu; rfl
      case c3 => unfold maxLen; omega
      case c4 => omega
      case c5 => have := HB1.out.size; rw [World.size_alloc]; omega
      intro g' cap' w2 ho2 hg2 hl2 hlt2
      have HA2 : Hid (AP w.heap.size w2 (.slice (some ⟨g', 0, none⟩) (k + 1) cap') (k + 1) (fun _ => 48) Z) :=
        AP.step HJ.out HCC.out HG.out.1 HG.out.2.1 HG.out.2.2.1 HNE.out HG.out.2.2.2.1 HG.out.2.2.2.2 ho2 hg2 hl2
      have HB2 : Hid (Below w.heap.size w w2) := Below.grown (HB1.out.alloc HB1.out.size _) hg2 (by rw [World.size_alloc]; have := HB1.out.size; omega) (fun q hq => (HV.out q hq).1)
      clear ho2 hg2 hl2 hlt2
      go_wp2_with fail
      go_roundw
      case rel => exact ⟨k + 1, hlt, by go_num, HB2.out, HA2.out⟩
      case measure => simp [intOf]; omega
    · have hkn : k = n := by omega
      have HO : Hid (AP w.heap.size wr u3 n (fun _ => 48) Z) := by have h := ho; rw [hkn] at h; exact h
      clear ho
      go_wp2_with fail
      go_ret
      exact ⟨_, rfl, hb, HO.out⟩
/-- The cells of one loose write, and of k of them. -/
def lv3 (p t : Int) (g n c : Nat) : List Value := [.int .i64 p, .int .i64 t, .slice (some ⟨g, 0, none⟩) n c]
def llv (P T : Nat → Int) (g L c : Nat → Nat) : Nat → List Value
  | 0 => []
  | k + 1 => llv P T g L c k ++ lv3 (P k) (T k) (g k) (L k) (c k)
theorem llv_len (P T : Nat → Int) (g L c : Nat → Nat) : ∀ k, (llv P T g L c k).length = k * 3
  | 0 => rfl
  | k + 1 => by simp only [llv, List.length_append, llv_len P T g L c k, lv3, List.length_cons, List.length_nil]; omega
theorem llv_get (P T : Nat → Int) (g L c : Nat → Nat) : ∀ k i q, i < k → q < 3 → (llv P T g L c k)[i * 3 + q]? = (lv3 (P i) (T i) (g i) (L i) (c i))[q]?
  | 0, i, q, h, _ => by omega
  | k + 1, i, q, h, hq => by
    simp only [llv]
    by_cases e : i = k
    · subst e
      rw [List.getElem?_append_right (by rw [llv_len]; omega), llv_len]
      congr 1; omega
    · rw [List.getElem?_append_left (by rw [llv_len]; omega)]
      exact llv_get P T g L c k i q (by omega) hq
theorem llv_congr {P T P' T' : Nat → Int} {g g' L L' c c' : Nat → Nat} : ∀ {k : Nat}, (∀ i, i < k → P i = P' i) → (∀ i, i < k → T i = T' i) → (∀ i, i < k → g i = g' i) → (∀ i, i < k → L i = L' i) → (∀ i, i < k → c i = c' i) → llv P T g L c k = llv P' T' g' L' c' k
  | 0, _, _, _, _, _ => rfl
  | k + 1, h1, h2, h3, h4, h5 => by
    simp only [llv]
    rw [llv_congr (k := k) (fun i hi => h1 i (by omega)) (fun i hi => h2 i (by omega)) (fun i hi => h3 i (by omega)) (fun i hi => h4 i (by omega)) (fun i hi => h5 i (by omega)), h1 k (by omega), h2 k (by omega), h3 k (by omega), h4 k (by omega), h5 k (by omega)]
theorem lv3_one {p t : Int} {g n c : Nat} : ∀ u ∈ lv3 p t g n c, u.oneCell' = true := fun u hu => by
  simp [lv3] at hu
  rcases hu with rfl | rfl | rfl <;> rfl
/-- k loose writes were appended to an empty list, all from block 'base' on. -/
def AL (base : Nat) (wr : World) (v : Value) (k : Nat) (P T : Nat → Int) (L : Nat → Nat) (Z : Nat → Nat → Int) : Prop :=
  ∃ g c : Nat → Nat, wr.ownsRow base 136 3 v k (llv P T g L c k) ∧ (∀ i j, i < k → j < k → g i = g j → i = j) ∧
    ∀ i, i < k → base ≤ g i ∧ g i < wr.heap.size ∧ v.ownBlock ≠ some (g i) ∧ Row1 wr (g i) 0 (L i) (Z i) ∧ L i ≤ c i
theorem AL.nil (base : Nat) (w : World) (P T : Nat → Int) (L : Nat → Nat) (Z : Nat → Nat → Int) : AL base w (.slice none 0 0) 0 P T L Z :=
  ⟨fun _ => 0, fun _ => 0, World.ownsRow_nil _ _ _ _, fun i j h => by omega, fun i h => by omega⟩
/-- A page that was just made is appended. -/
theorem AL.step {base G C g' cap' : Nat} {w1 w2 : World} {v : Value} {k : Nat} {P T : Nat → Int} {L : Nat → Nat} {Z : Nat → Nat → Int} {o : Obj} {g c : Nat → Nat} (hj : ∀ i j, i < k → j < k → g i = g j → i = j)
    (hc : ∀ i, i < k → base ≤ g i ∧ g i < w1.heap.size ∧ v.ownBlock ≠ some (g i) ∧ Row1 w1 (g i) 0 (L i) (Z i) ∧ L i ≤ c i)
    (hG0 : base ≤ G) (hG1 : G < w1.heap.size) (hG2 : v.ownBlock ≠ some G) (hne : ∀ i, i < k → g i ≠ G) (hr : Row1 w1 G 0 (L k) (Z k)) (hC : L k ≤ C)
    (ho : w2.ownsRow base 136 3 (.slice (some ⟨g', 0, none⟩) (k + 1) cap') (k + 1) (llv P T g L c k ++ lv3 (P k) (T k) G (L k) C))
    (hg : (w1.alloc o).grownBy w2 v.ownBlock) (hl : v.ownBlock = some g' ∨ g' = w1.heap.size + 1) : AL base w2 (.slice (some ⟨g', 0, none⟩) (k + 1) cap') (k + 1) P T L Z := by
  have hsz : w1.heap.size + 1 ≤ w2.heap.size := by have := hg.size; rw [World.size_alloc] at this; exact this
  have keep : ∀ q, q < w1.heap.size → v.ownBlock ≠ some q → w2.heap[q]? = w1.heap[q]? := fun q hq hv => (hg.block q (by rw [World.size_alloc]; omega) (fun e => hv e.symm)).trans (Below.heap_alloc _ _ _ hq)
  have far : ∀ q, q < w1.heap.size → v.ownBlock ≠ some q → (Value.slice (some ⟨g', 0, none⟩) (k + 1) cap').ownBlock ≠ some q := fun q hq hv e => by
    simp only [Value.ownBlock, Option.some.injEq] at e
    rcases hl with hl | hl
    · exact hv (by rw [hl, e])
    · omega
  refine ⟨fun i => if i < k then g i else G, fun i => if i < k then c i else C, ?_, fun i j hi hj' e => ?_, fun i hi => ?_⟩
  · simp only [llv, Nat.lt_irrefl, if_false]
    rw [llv_congr (P' := P) (T' := T) (g' := g) (L' := L) (c' := c) (fun _ _ => rfl) (fun _ _ => rfl) (fun i hi => by simp [hi]) (fun _ _ => rfl) (fun i hi => by simp [hi])]
    exact ho
  · by_cases c1 : i < k <;> by_cases c2 : j < k <;> simp only [c1, c2, if_true, if_false] at e
    · exact hj i j c1 c2 e
    · exact absurd e (hne i c1)
    · exact absurd e.symm (hne j c2)
    · omega
  · by_cases c1 : i < k
    · simp only [c1, if_true]
      obtain ⟨h1, h2, h3, h4, h5⟩ := hc i c1
      exact ⟨h1, by omega, far _ h2 h3, h4.block (keep _ h2 h3), h5⟩
    · have : i = k := by omega
      subst this
      simp only [Nat.lt_irrefl, if_false]
      exact ⟨hG0, by omega, far _ hG1 hG2, hr.block (keep _ hG1 hG2), hC⟩
theorem AL.own {base : Nat} {w : World} {v : Value} {n : Nat} {P T : Nat → Int} {L : Nat → Nat} {Z : Nat → Nat → Int} (h : AL base w v n P T L Z) : ∃ a cap, v = .slice a n cap ∧ n ≤ cap ∧ OwnL w base w.heap.size a n P T L Z := by
  obtain ⟨g, c, hown, hj, hc⟩ := h
  by_cases h0 : n = 0
  · subst h0
    rcases hown.2 with ⟨rfl, _⟩ | ⟨q, cap, cur, rfl, _, _, hcap, _⟩
    · exact ⟨none, 0, rfl, Nat.le_refl _, Nat.le_refl _, .inl rfl⟩
    · exact ⟨_, cap, rfl, hcap, Nat.le_refl _, .inl rfl⟩
  · rcases hown.2 with ⟨rfl, h1⟩ | ⟨q, cap, cur, rfl, hbq, hq, hcap, _⟩
    · omega
    · have hlt : q < w.heap.size := by
        obtain ⟨hlt, _⟩ := Array.getElem?_eq_some_iff.1 hq
        exact hlt
      refine ⟨_, cap, rfl, hcap, Nat.le_refl _, .inr ⟨q, 0, rfl, hbq, hlt, g, fun _ => 0, c, hj, fun i hi => ?_⟩⟩
      obtain ⟨h1, h2, h3, h4, h5⟩ := hc i hi
      have e0 := hown.cellAt (i * 3 + 0) (by omega)
      have e1 := hown.cellAt (i * 3 + 1) (by omega)
      have e2 := hown.cellAt (i * 3 + 2) (by omega)
      rw [llv_get _ _ _ _ _ _ _ _ hi (by omega)] at e0 e1 e2
      refine ⟨fun e => h3 (by simp [Value.ownBlock, e]), h1, h2, ?_, ?_, ?_, hown.frozenAt _, hown.frozenAt _, h4, h5⟩
      · rw [Nat.zero_add]; exact e0
      · rw [Nat.zero_add]; exact e1
      · rw [Nat.zero_add]; exact e2
theorem AL.set {base q p : Nat} {w : World} {v x : Value} {k : Nat} {P T : Nat → Int} {L : Nat → Nat} {Z : Nat → Nat → Int} (h : AL base w v k P T L Z) (hq : q < base) : AL base (w.setCell ⟨q, p, none⟩ x) v k P T L Z := by
  obtain ⟨g, c, ho, hj, hc⟩ := h
  have hw : Writes q (q + 1) w (w.setCell ⟨q, p, none⟩ x) := Writes.setCell (Writes.refl _ _ _) (p := ⟨q, p, none⟩) (Nat.le_refl _) (by show q < q + 1; omega) x
  refine ⟨g, c, ?_, hj, fun i hi => ?_⟩
  · refine ho.kept (row := some q) ⟨hw.os, hw.tape, hw.output, hw.size, fun z hz hne => hw.block z hz (by simp at hne; omega)⟩ ?_
    cases hv : v.ownBlock with
    | none => exact .inl rfl
    | some z => exact .inr (fun e => by have := (ho.lt z hv).1; simp at e; omega)
  · obtain ⟨h1, h2, h3, h4, h5⟩ := hc i hi
    exact ⟨h1, Nat.lt_of_lt_of_le h2 hw.size, h3, h4.block (hw.block _ h2 (by omega)), h5⟩
theorem Writes.of_below' {B : Nat} {w w' : World} (h : Below B w w') : Writes B w.heap.size w w' := ⟨h.os, h.tape, h.output, h.size, fun k hk hd => h.block k (by omega)⟩
theorem frozen_block {w : World} {b j : Nat} {c : Array Value} {t : TypeId} (h : w.heap[b]? = some (.cells c t (0, 0))) : w.frozen? ⟨b, j, none⟩ = false := by simp [World.frozen?, h]
end Go.Proofs.YtaokclhcmgbgnaaGreat
