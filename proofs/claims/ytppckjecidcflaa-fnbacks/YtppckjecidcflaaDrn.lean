/- Drg Drh Dri Wae Drj in one. -/
import Derived.Test.YtppckjecidcflaaDrm
import Derived.Test.YtppckjecidcflaaCba
import Derived.Deep.AppendLies
import Derived.Laws.AppendOwn
import Derived.OwnWalk
import Derived.Test.YtppckjecidcflaaCbe
import Derived.Test.YtppckjecidcflaaCbf
import Derived.Test.YtppckjecidcflaaBase
import Derived.Deep.RegionHeld
import Derived.Test.YtppckjecidcflaaCbg
namespace Go.Proofs.Ytppckjecidcflaa
open Go.RowKit Go.Deep
set_option linter.unusedVariables false
set_option linter.unusedSimpArgs false
set_option maxRecDepth 20000

/-- The cells of a record, and of the first k. -/
def r8 (r : Rc) : List Value := [.int .i64 r.k, .int .i64 r.t, .int .i64 r.key, .bool r.hd, .int .i64 r.old, .bool r.hs, .int .i64 r.nw, .int .i64 r.bk]
def r8s (R : Nat → Rc) : Nat → List Value
  | 0 => []
  | k + 1 => r8s R k ++ r8 (R k)
theorem r8s_len (R : Nat → Rc) : ∀ k, (r8s R k).length = k * 8
  | 0 => rfl
  | k + 1 => by simp only [r8s, List.length_append, r8s_len R k, r8, List.length_cons, List.length_nil]; omega
theorem r8s_get (R : Nat → Rc) : ∀ k i j, i < k → j < 8 → (r8s R k)[i * 8 + j]? = (r8 (R i))[j]?
  | 0, i, j, h, _ => by omega
  | k + 1, i, j, h, hj => by
    simp only [r8s]
    by_cases e : i = k
    · subst e
      rw [List.getElem?_append_right (by rw [r8s_len]; omega), r8s_len]
      congr 1; omega
    · rw [List.getElem?_append_left (by rw [r8s_len]; omega)]
      exact r8s_get R k i j (by omega) hj
theorem r8s_congr {R R' : Nat → Rc} : ∀ k, (∀ i, i < k → R i = R' i) → r8s R k = r8s R' k
  | 0, _ => rfl
  | k + 1, h => by simp only [r8s, h k (by omega), r8s_congr k (fun i hi => h i (by omega))]
theorem r8_one (r : Rc) : ∀ u ∈ r8 r, u.oneCell' = true := by
  intro u hu
  simp [r8] at hu
  rcases hu with rfl | rfl | rfl | rfl | rfl | rfl | rfl | rfl <;> rfl
theorem r8s_one (R : Nat → Rc) : ∀ k, ∀ u ∈ r8s R k, u.oneCell' = true
  | 0, u, hu => by simp [r8s] at hu
  | k + 1, u, hu => by
    simp only [r8s, List.mem_append] at hu
    rcases hu with hu | hu
    · exact r8s_one R k u hu
    · exact r8_one _ u hu
def upR (R : Nat → Rc) (j : Nat) (x : Rc) (i : Nat) : Rc := if i = j then x else R i
theorem r8s_up (R : Nat → Rc) (k : Nat) (r : Rc) : r8s (upR R k r) (k + 1) = r8s R k ++ r8 r := by
  simp only [r8s]
  rw [r8s_congr (R := upR R k r) (R' := R) k (fun i hi => by simp [upR, Nat.ne_of_lt hi])]
  simp [upR]
theorem C8.list {w : World} {b o : Nat} {r : Rc} (h : C8 w b o r) : ∀ j u, (r8 r)[j]? = some u → w.cell? ⟨b, o + j, none⟩ = some u := by
  intro j u hu
  obtain ⟨h0, h1, h2, h3, h4, h5, h6, h7⟩ := h
  have hd : j < 8 := by have := (List.getElem?_eq_some_iff.1 hu).1; simpa [r8] using this
  have : j = 0 ∨ j = 1 ∨ j = 2 ∨ j = 3 ∨ j = 4 ∨ j = 5 ∨ j = 6 ∨ j = 7 := by omega
  rcases this with rfl | rfl | rfl | rfl | rfl | rfl | rfl | rfl
  · rw [← hu]; exact h0
  · rw [← hu]; exact h1
  · rw [← hu]; exact h2
  · rw [← hu]; exact h3
  · rw [← hu]; exact h4
  · rw [← hu]; exact h5
  · rw [← hu]; exact h6
  · rw [← hu]; exact h7
theorem row8_of_own {w : World} {base n : Nat} {v : Value} {R : Nat → Rc} (h : w.ownsRow base 33 8 v n (r8s R n)) : ∃ a cap, v = .slice a n cap ∧ n ≤ cap ∧ (n = 0 ∨ ∃ g, a = some ⟨g, 0, none⟩ ∧ base ≤ g ∧ g < w.heap.size ∧ Row8 w g 0 n R) := by
  have hown := h
  obtain ⟨h1, ⟨rfl, rfl⟩ | ⟨g, cap, cur, rfl, k1, k2, k3, k4⟩⟩ := h
  · exact ⟨none, 0, rfl, Nat.le_refl _, .inl rfl⟩
  · refine ⟨_, cap, rfl, k3, .inr ⟨g, rfl, k1, (hown.lt g rfl).2, fun i hi => ?_, fun i => hown.frozenAt _⟩⟩
    have cc : ∀ j v, j < 8 → (r8 (R i))[j]? = some v → w.cell? ⟨g, 0 + i * 8 + j, none⟩ = some v := fun j v hj hv => by
      rw [hown.cellAt (0 + i * 8 + j) (by omega), show 0 + i * 8 + j = i * 8 + j by omega, r8s_get R n i j hi hj, hv]
    exact ⟨cc 0 _ (by omega) rfl, cc 1 _ (by omega) rfl, cc 2 _ (by omega) rfl, cc 3 _ (by omega) rfl, cc 4 _ (by omega) rfl, cc 5 _ (by omega) rfl, cc 6 _ (by omega) rfl, cc 7 _ (by omega) rfl⟩
theorem info8 : (Try.prog.info? 33).map (fun i => (i.zero, i.size, i.bytes)) = some (some (.agg #[.int .i64 0, .int .i64 0, .int .i64 0, .bool false, .int .i64 0, .bool false, .int .i64 0, .int .i64 0]), 8, 64) := by kernel_rfl
theorem wp_app8 {o : Oper} {a : Act} {K : Act → World → Prop} {Q : Exit → Act → World → Prop} (w : World) (s x : Operand)
    (ho : o.op = .call { callee := .builtin .append, args := #[s, x], argTypes := #[46, 46] })
    (base : Nat) (v : Value) (k : Nat) (R : Nat → Rc) (hs : a.eval s = v) (hown : w.ownsRow base 33 8 v k (r8s R k))
    (X O cx : Nat) (r : Rc) (hx : a.eval x = .slice (some ⟨X, O, none⟩) 1 cx) (hC : C8 w X O r) (hlen : k ≤ 100000) (hbase : base ≤ w.heap.size)
    (h : ∀ v' w', w'.ownsRow base 33 8 v' (k + 1) (r8s (upR R k r) (k + 1)) → w.grownBy w' v.ownBlock → K (a.put o.dst v') w') : o.wp Try.prog a w K Q := by
  obtain ⟨i0, hi, hzz⟩ := Option.map_eq_some_iff.1 info8
  simp only [Prod.mk.injEq] at hzz
  obtain ⟨hz0, hz1, hz2⟩ := hzz
  refine wp_append_own w s x 46 ho base 33 i0 _ 8 64 Try.underlying46 hi hz0 hz1 hz2 rfl (by decide) v k (r8s R k) hs hown ⟨X, O, none⟩ 1 cx (r8 r) hx rfl (fun j u hj => ?_) (r8_one _) (by unfold maxLen; omega) (by omega) hbase fun v' w' h2 h3 _ => h v' w' (by rw [r8s_up]; exact h2) h3
  rw [WideShapes.add_plain]
  exact hC.list j u hj
theorem wpList_app8 {ops : Array Oper} {rest : List Oper} {o : Oper} {a : Act} {Q : Exit → Act → World → Prop} (w : World) (hgd : o.guard = none) (s x : Operand)
    (ho : o.op = .call { callee := .builtin .append, args := #[s, x], argTypes := #[46, 46] })
    (base : Nat) (v : Value) (k : Nat) (R : Nat → Rc) (hs : a.eval s = v) (hown : w.ownsRow base 33 8 v k (r8s R k))
    (X O cx : Nat) (r : Rc) (hx : a.eval x = .slice (some ⟨X, O, none⟩) 1 cx) (hC : C8 w X O r) (hlen : k ≤ 100000) (hbase : base ≤ w.heap.size)
    (h : ∀ v' w', w'.ownsRow base 33 8 v' (k + 1) (r8s (upR R k r) (k + 1)) → w.grownBy w' v.ownBlock → wpList Try.prog ops Q rest (a.put o.dst v') w') : wpList Try.prog ops Q (o :: rest) a w :=
  wpList_plain hgd fun _ hK => wp_app8 w s x ho base v k R hs hown X O cx r hx hC hlen hbase fun v' w' h2 h3 => hK _ _ (h v' w' h2 h3)
/-- Records are drawn: the source in block S, the list in blocks from M on. -/
structure Dc (w wr : World) (S M : Nat) (a : Option Addr) (kk cap : Nat) (z : Nat → Int) (t : Nat) (v : Value) (n : Nat) (R : Nat → Rc) : Prop where
  below : Below w.heap.size w wr
  hS : w.heap.size ≤ S
  hM : S < M
  hsz : M ≤ wr.heap.size
  src : Src wr S a kk cap z t
  own : wr.ownsRow M 33 8 v n (r8s R n)
theorem Dc.dw {w wr w2 : World} {S M : Nat} {a : Option Addr} {kk cap : Nat} {z : Nat → Int} {t t' : Nat} {v : Value} {n : Nat} {R : Nat → Rc} (h : Dc w wr S M a kk cap z t v n R) (g : Dw S a kk cap z t' wr w2) : Dc w w2 S M a kk cap z t' v n R := by
  have h1 := h.hS
  have h2 := h.hM
  exact ⟨Writes.below h.below g.1 h1, h1, h2, Nat.le_trans h.hsz g.1.size, g.2, ownI_keep h.own fun q hq => g.1.block q (h.own.lt q hq).2 (by have := (h.own.lt q hq).1; omega)⟩
theorem Dc.up {w wr w2 : World} {S M : Nat} {a : Option Addr} {kk cap : Nat} {z : Nat → Int} {t : Nat} {v : Value} {n : Nat} {R : Nat → Rc} (h : Dc w wr S M a kk cap z t v n R) (g : Below wr.heap.size wr w2) : Dc w w2 S M a kk cap z t v n R :=
  ⟨below_then h.below g, h.hS, h.hM, Nat.le_trans h.hsz g.size, h.src.below g, ownI_keep h.own fun q hq => g.block q (h.own.lt q hq).2⟩
theorem Dc.app {w wr w1 w2 : World} {S M : Nat} {a : Option Addr} {kk cap : Nat} {z : Nat → Int} {t : Nat} {v v' : Value} {n m : Nat} {R R' : Nat → Rc} (h : Dc w w1 S M a kk cap z t v n R) (g : w1.grownBy w2 v.ownBlock) (ho : w2.ownsRow M 33 8 v' m (r8s R' m)) : Dc w w2 S M a kk cap z t v' m R' := by
  have h1 := h.hS
  have h2 := h.hM
  have hs := h.src.lt
  have hq : ∀ q, v.ownBlock = some q → M ≤ q := fun q hq => (h.own.lt q hq).1
  have eS := g.block S hs (fun e => by have := hq S e.symm; omega)
  refine ⟨h.below.grown g (Nat.le_trans h1 (Nat.le_of_lt hs)) (fun q hqq => by have := hq q hqq; omega), h1, h2, Nat.le_trans h.hsz g.size, ?_, ho⟩
  have e : ∀ i, w2.cell? ⟨S, i, none⟩ = w1.cell? ⟨S, i, none⟩ := fun i => World.cell?_of_block (w := w1) (a := ⟨S, i, none⟩) eS
  refine ⟨(e 0).trans h.src.c0, (e 1).trans h.src.c1, fun i => (World.frozen?_of_block (w := w1) (a := ⟨S, i, none⟩) eS).trans (h.src.f i), ?_, h.src.far, h.src.byt, h.src.len⟩
  rcases h.src.b with e | ⟨b, off, rfl, hl, hc⟩
  · exact .inl e
  · rcases h.src.far b off rfl with e | e
    · exact .inl e
    · have eb := g.block b hl (fun e2 => by have := hq b e2.symm; omega)
      exact .inr ⟨b, off, rfl, Nat.lt_of_lt_of_le hl g.size, fun i hi => (World.cell?_of_block (w := w1) (a := ⟨b, off + i, none⟩) eb).trans (hc i hi)⟩
end Go.Proofs.Ytppckjecidcflaa
namespace Go.Proofs.Ytppckjecidcflaa
open Go.RowKit Go.Deep
set_option linter.unusedVariables false
set_option linter.unusedSimpArgs false
set_option maxRecDepth 20000

/-- Records that were drawn: the source in block S, the records behind it. -/
structure De (w wr : World) (S : Nat) (a : Option Addr) (kk cap : Nat) (z : Nat → Int) (t : Nat) (ra : Option Addr) (n : Nat) (R : Nat → Rc) : Prop where
  below : Below w.heap.size w wr
  hS : w.heap.size ≤ S
  src : Src wr S a kk cap z t
  recs : n = 0 ∨ ∃ b off, ra = some ⟨b, off, none⟩ ∧ S < b ∧ b < wr.heap.size ∧ Row8 wr b off n R
theorem De.dw {w wr w2 : World} {S : Nat} {a : Option Addr} {kk cap : Nat} {z : Nat → Int} {t t' : Nat} {ra : Option Addr} {n : Nat} {R : Nat → Rc} (h : De w wr S a kk cap z t ra n R) (g : Dw S a kk cap z t' wr w2) : De w w2 S a kk cap z t' ra n R := by
  refine ⟨Writes.below h.below g.1 h.hS, h.hS, g.2, ?_⟩
  rcases h.recs with e | ⟨b, off, e, h1, h2, h3⟩
  · exact .inl e
  · have eb := g.1.block b h2 (by omega)
    exact .inr ⟨b, off, e, h1, Nat.lt_of_lt_of_le h2 g.1.size, fun i hi => (h3.1 i hi).block eb, fun i => (World.frozen?_of_block (w := wr) (a := ⟨b, i, none⟩) eb).trans (h3.2 i)⟩
theorem De.up {w wr w2 : World} {S : Nat} {a : Option Addr} {kk cap : Nat} {z : Nat → Int} {t : Nat} {ra : Option Addr} {n : Nat} {R : Nat → Rc} (h : De w wr S a kk cap z t ra n R) (g : Below wr.heap.size wr w2) : De w w2 S a kk cap z t ra n R := by
  refine ⟨below_then h.below g, h.hS, h.src.below g, ?_⟩
  rcases h.recs with e | ⟨b, off, e, h1, h2, h3⟩
  · exact .inl e
  · have eb := g.block b h2
    exact .inr ⟨b, off, e, h1, Nat.lt_of_lt_of_le h2 g.size, fun i hi => (h3.1 i hi).block eb, fun i => (World.frozen?_of_block (w := wr) (a := ⟨b, i, none⟩) eb).trans (h3.2 i)⟩
theorem De.new {w wr w2 : World} {S : Nat} {a : Option Addr} {kk cap : Nat} {z : Nat → Int} {t m : Nat} {ra : Option Addr} {n : Nat} {R R' : Nat → Rc} (h : De w wr S a kk cap z t ra n R) (g : Below wr.heap.size wr w2) (hl : wr.heap.size < w2.heap.size) (hr : Row8 w2 wr.heap.size 0 m R') : De w w2 S a kk cap z t (some ⟨wr.heap.size, 0, none⟩) m R' :=
  ⟨below_then h.below g, h.hS, h.src.below g, .inr ⟨_, _, rfl, h.src.lt, hl, hr⟩⟩
theorem De.set {w wr : World} {S : Nat} {a : Option Addr} {kk cap : Nat} {z : Nat → Int} {t b n : Nat} {R : Nat → Rc} (h : De w wr S a kk cap z t (some ⟨b, 0, none⟩) n R) (hn : 1 ≤ n) (r : Rc) : De w (set8 wr b 0 r) S a kk cap z t (some ⟨b, 0, none⟩) n (upR R 0 r) := by
  rcases h.recs with e | ⟨b', off, e, h1, h2, h3⟩
  · omega
  simp only [Option.some.injEq, Addr.mk.injEq, and_true] at e
  obtain ⟨rfl, rfl⟩ := e
  have hw : Writes b (b + 1) wr (set8 wr b 0 r) := set8_writes (Writes.refl _ _ _) (Nat.le_refl _) (Nat.lt_succ_self _)
  have hz : (set8 wr b 0 r).heap.size = wr.heap.size := by simp [set8, World.setCell]
  have hS := h.hS
  have hSl := h.src.lt
  have eS := hw.block S hSl (by omega)
  refine ⟨Writes.below h.below hw (by omega), hS, ?_, .inr ⟨b, 0, rfl, h1, by rw [hz]; exact h2, fun i hi => ?_, set8_frozen h3.2⟩⟩
  · have e : ∀ i, (set8 wr b 0 r).cell? ⟨S, i, none⟩ = wr.cell? ⟨S, i, none⟩ := fun i => World.cell?_of_block (w := wr) (a := ⟨S, i, none⟩) eS
    refine ⟨(e 0).trans h.src.c0, (e 1).trans h.src.c1, fun i => (World.frozen?_of_block (w := wr) (a := ⟨S, i, none⟩) eS).trans (h.src.f i), ?_, h.src.far, h.src.byt, h.src.len⟩
    rcases h.src.b with e | ⟨b2, off, rfl, hl, hc⟩
    · exact .inl e
    · rcases h.src.far b2 off rfl with e | e
      · exact .inl e
      · have eb := hw.block b2 hl (by omega)
        exact .inr ⟨b2, off, rfl, by rw [hz]; exact hl, fun i hi => (World.cell?_of_block (w := wr) (a := ⟨b2, off + i, none⟩) eb).trans (hc i hi)⟩
  · by_cases e : i = 0
    · subst e
      have : upR R 0 r 0 = r := by simp [upR]
      rw [this]
      exact set8_same (h3.1 0 (by omega))
    · have : upR R 0 r i = R i := by simp [upR, e]
      rw [this]
      have g : ∀ j, j < 8 → (set8 wr b 0 r).cell? ⟨b, 0 + i * 8 + j, none⟩ = wr.cell? ⟨b, 0 + i * 8 + j, none⟩ := fun j hj => set8_far (by omega)
      obtain ⟨c0, c1, c2, c3, c4, c5, c6, c7⟩ := h3.1 i hi
      exact ⟨(g 0 (by omega)).trans c0, (g 1 (by omega)).trans c1, (g 2 (by omega)).trans c2, (g 3 (by omega)).trans c3, (g 4 (by omega)).trans c4, (g 5 (by omega)).trans c5, (g 6 (by omega)).trans c6, (g 7 (by omega)).trans c7⟩
theorem Dc.de {w wr : World} {S M : Nat} {a : Option Addr} {kk cap : Nat} {z : Nat → Int} {t : Nat} {v : Value} {n : Nat} {R : Nat → Rc} (h : Dc w wr S M a kk cap z t v n R) (hn : 1 ≤ n) : ∃ g c, v = .slice (some ⟨g, 0, none⟩) n c ∧ n ≤ c ∧ De w wr S a kk cap z t (some ⟨g, 0, none⟩) n R := by
  obtain ⟨ra, c, rfl, hc, e | ⟨g, rfl, h1, h2, h3⟩⟩ := row8_of_own h.own
  · omega
  · have := h.hM
    exact ⟨g, c, rfl, hc, h.below, h.hS, h.src, .inr ⟨g, 0, rfl, by omega, h2, h3⟩⟩
/-- What is drawn: some records, some number. -/
def DcA (w : World) (e : Ending) (w' : World) : Prop := ∃ (n : Nat) (R : Nat → Rc) (ra : Option Addr) (rc : Nat) (x : Int), e = .returned (.tuple #[.slice ra n rc, .int .i64 x]) ∧ n ≤ 401 ∧ n ≤ rc ∧ Below w.heap.size w w' ∧ RecsAt w' ra n R
theorem De.ans {w wr : World} {S : Nat} {a : Option Addr} {kk cap : Nat} {z : Nat → Int} {t : Nat} {ra : Option Addr} {n rc : Nat} {R : Nat → Rc} {x : Int} (h : De w wr S a kk cap z t ra n R) (hn : n ≤ 401) (hc : n ≤ rc) : DcA w (.returned (.tuple #[.slice ra n rc, .int .i64 x])) wr := by
  refine ⟨n, R, ra, rc, x, rfl, hn, hc, h.below, ?_⟩
  rcases h.recs with e | ⟨b, off, e, h1, h2, h3⟩
  · exact .inl e
  · exact .inr ⟨b, off, e, h2, h3.1⟩
set_option maxHeartbeats 8000000 in
theorem drawCb_any (a : Option Addr) (kk cap : Nat) (z : Nat → Int) (w : World) (hk : kk ≤ 1048576) (hz : Byt kk z) (h : BytesAt w a kk z) :
    Calls Try.prog 26 #[.slice a kk cap] w (DcA w) := by
  obtain ⟨Z, hmk, hmr⟩ : ∃ Z : Array Value, (∀ u, (Instr.makeSlice 46 (.int .i64 401) (.int .i64 401)).run Try.prog u = .ok (.slice (some ⟨u.heap.size, 0, none⟩) 401 401) (u.alloc (.cells Z 33))) ∧ ∀ u : World, Row8 (u.alloc (.cells Z 33)) u.heap.size 0 401 (fun _ => zRec) :=
    ⟨_, fun u => run_make_recs 401 (by omega) u, fun u => made_recs u 401⟩
  have HMR : Hid (∀ u : World, Row8 (u.alloc (.cells Z 33)) u.heap.size 0 401 (fun _ => zRec)) := hmr
  have HB0 : Hid (BytesAt w a kk z) := h
  have HBY : Hid (Byt kk z) := hz
  clear h hz hmr
  go_enter Try.func26, Try.ntmps26
  go_wp2_with fail
  refine (l1Source_any a kk cap z w hk HBY.out HB0.out).mono ?_
  rintro e w1 ⟨rfl, hb1, hs1, hsrc⟩
  obtain ⟨S, hS⟩ : ∃ S, S = w.heap.size := ⟨_, rfl⟩
  have HSw : Hid (S = w.heap.size) := hS
  have HC0 : Hid (Dc w (w1.alloc (.cells #[] 33)) S (S + 1) a kk cap z 0 (.slice (some ⟨w1.heap.size, 0, none⟩) 0 0) 0 (fun _ => zRec)) := by
    rw [hS]
    exact ⟨below_then hb1 (below_new _ _), Nat.le_refl _, Nat.lt_succ_self _, by simp; omega, hsrc.below (below_new _ _), World.ownsRow_made w1 #[] 0 (by omega) (by unfold maxLen; omega) rfl⟩
  rw [← hS]
  clear hb1 hs1 hsrc HB0 HBY hS
  go_wp2_with fail
  generalize hW2 : w1.alloc (.cells #[] 33) = W2 at *
  generalize (Value.slice (some ⟨w1.heap.size, 0, none⟩) 0 0) = v0 at *
  clear hW2
  refine (l1Next_any S a kk cap z 0 12 W2 (by omega) (by omega) HC0.out.src).mono ?_
  rintro e w2 ⟨y, rfl, hy, hn⟩
  have HC1 : Hid (Dc w w2 S (S + 1) a kk cap z 1 v0 0 (fun _ => zRec)) := HC0.out.dw hn.dw
  obtain ⟨ly, uy, -⟩ := hy
  have uy := uy (by omega)
  obtain ⟨y0, rfl⟩ : ∃ y0 : Nat, y = (y0 : Int) := ⟨y.toNat, by omega⟩
  have HN0 : Hid (3 ≤ 3 + y0 ∧ 3 + y0 ≤ 14) := ⟨by omega, by omega⟩
  have hw3 : IntKind.i64.wrap (3 + (y0 : Int)) = 3 + (y0 : Int) := by rw [IntKind.wrap_i64]; omega
  clear hn HC0 ly uy
  go_wp2_with fail
  go_loopw [5, 6] (fun v i wr => ∃ (k n t : Nat) (R : Nat → Rc), i = .int .i64 k ∧ Hid (n + k = 3 + y0) ∧ Hid (t ≤ 1 + 20 * n) ∧ Hid (Dc w wr S (S + 1) a kk cap z t v n R)) (fun _ i _ => (intOf i).toNat)
  case atStart => exact ⟨3 + y0, 0, 1, _, by simp, (by show 0 + (3 + y0) = 3 + y0; omega), (by show 1 ≤ _; omega), HC1⟩
  case round =>
    obtain ⟨k, n, t, R, rfl, HN, HT, HC⟩ := hrel
    by_cases hlt : 0 < k
    · have hlt' : (0 : Int) < (k : Int) := by omega
      go_wp2_with fail
      refine (l3Rec_any S a kk cap z t wr (by have := HT.out; have := HN.out; have := HN0.out; omega) HC.out.src).mono ?_
      rintro e w3 ⟨r, t3, rfl, ht3, hd3⟩
      have HC3 : Hid (Dc w w3 S (S + 1) a kk cap z t3 _ n R) := HC.out.dw hd3
      have HT3 : Hid (t3 ≤ 1 + 20 * (n + 1)) := by have := HT.out; show _ ≤ _; omega
      have HK : Hid (n ≤ 14) := by have := HN.out; have := HN0.out; show n ≤ 14; omega
      have hk14 : k ≤ 14 := by have := HN.out; have := HN0.out; omega
      clear hd3 ht3 HC
      obtain ⟨rk, rt, ry, rh, ro, rs, rn, rb⟩ := r
      unfold rV
      by_cases hrt : 2 < rt
      · skip
        have HU : Hid (Dc w ((w3.alloc (.cells #[.int .i64 rk, .int .i64 (wrap64 (rt - 2)), .int .i64 ry, .bool rh, .int .i64 ro, .bool rs, .int .i64 rn, .int .i64 rb] 33)).alloc (.cells #[.int .i64 rk, .int .i64 (wrap64 (rt - 2)), .int .i64 ry, .bool rh, .int .i64 ro, .bool rs, .int .i64 rn, .int .i64 rb] 33)) S (S + 1) a kk cap z t3 u5 n R) := (HC3.out.up (below_new _ _)).up (below_new _ _)
        have HC8 : Hid (C8 ((w3.alloc (.cells #[.int .i64 rk, .int .i64 (wrap64 (rt - 2)), .int .i64 ry, .bool rh, .int .i64 ro, .bool rs, .int .i64 rn, .int .i64 rb] 33)).alloc (.cells #[.int .i64 rk, .int .i64 (wrap64 (rt - 2)), .int .i64 ry, .bool rh, .int .i64 ro, .bool rs, .int .i64 rn, .int .i64 rb] 33)) (w3.heap.size + 1) 0 ⟨rk, (wrap64 (rt - 2)), ry, rh, ro, rs, rn, rb⟩) := ⟨by simp [go_sem], by simp [go_sem], by simp [go_sem], by simp [go_sem], by simp [go_sem], by simp [go_sem], by simp [go_sem], by simp [go_sem]⟩
        go_wp2_with (at_builtin; refine wpList_app8 _ rfl (.tmp 27) (.tmp 29) rfl (S + 1) _ n R rfl HU.out.own (w3.heap.size + 1) 0 1 ⟨rk, (wrap64 (rt - 2)), ry, rh, ro, rs, rn, rb⟩ rfl HC8.out (by have := HK.out; omega) HU.out.hsz ?_)
        intro v1 w9 ho1 hg1
        have HC9 : Hid (Dc w w9 S (S + 1) a kk cap z t3 v1 (n + 1) (upR R n ⟨rk, (wrap64 (rt - 2)), ry, rh, ro, rs, rn, rb⟩)) := HU.out.app (wr := wr) hg1 ho1
        have HN9 : Hid (n + 1 + (k - 1) = 3 + y0) := by have := HN.out; show _ = _; omega
        have hwk : IntKind.i64.wrap ((k : Int) - 1) = ((k - 1 : Nat) : Int) := by rw [IntKind.wrap_i64]; omega
        clear ho1 hg1 HU HC8 HC3
        go_wp2_with fail
        go_roundw
        case rel => exact ⟨k - 1, n + 1, t3, _, by first | rfl | (rw [hwk]) | (congr 1; omega), HN9, HT3, HC9⟩
        case measure => simp [intOf]; omega
      · have hrt2 : ¬ (2 < rt) := hrt
        have HU : Hid (Dc w ((w3.alloc (.cells #[.int .i64 rk, .int .i64 rt, .int .i64 ry, .bool rh, .int .i64 ro, .bool rs, .int .i64 rn, .int .i64 rb] 33)).alloc (.cells #[.int .i64 rk, .int .i64 rt, .int .i64 ry, .bool rh, .int .i64 ro, .bool rs, .int .i64 rn, .int .i64 rb] 33)) S (S + 1) a kk cap z t3 u5 n R) := (HC3.out.up (below_new _ _)).up (below_new _ _)
        have HC8 : Hid (C8 ((w3.alloc (.cells #[.int .i64 rk, .int .i64 rt, .int .i64 ry, .bool rh, .int .i64 ro, .bool rs, .int .i64 rn, .int .i64 rb] 33)).alloc (.cells #[.int .i64 rk, .int .i64 rt, .int .i64 ry, .bool rh, .int .i64 ro, .bool rs, .int .i64 rn, .int .i64 rb] 33)) (w3.heap.size + 1) 0 ⟨rk, rt, ry, rh, ro, rs, rn, rb⟩) := ⟨by simp [go_sem], by simp [go_sem], by simp [go_sem], by simp [go_sem], by simp [go_sem], by simp [go_sem], by simp [go_sem], by simp [go_sem]⟩
        go_wp2_with (at_builtin; refine wpList_app8 _ rfl (.tmp 27) (.tmp 29) rfl (S + 1) _ n R rfl HU.out.own (w3.heap.size + 1) 0 1 ⟨rk, rt, ry, rh, ro, rs, rn, rb⟩ rfl HC8.out (by have := HK.out; omega) HU.out.hsz ?_)
        intro v1 w9 ho1 hg1
        have HC9 : Hid (Dc w w9 S (S + 1) a kk cap z t3 v1 (n + 1) (upR R n ⟨rk, rt, ry, rh, ro, rs, rn, rb⟩)) := HU.out.app (wr := wr) hg1 ho1
        have HN9 : Hid (n + 1 + (k - 1) = 3 + y0) := by have := HN.out; show _ = _; omega
        have hwk : IntKind.i64.wrap ((k : Int) - 1) = ((k - 1 : Nat) : Int) := by rw [IntKind.wrap_i64]; omega
        clear ho1 hg1 HU HC8 HC3
        go_wp2_with fail
        go_roundw
        case rel => exact ⟨k - 1, n + 1, t3, _, by first | rfl | (rw [hwk]) | (congr 1; omega), HN9, HT3, HC9⟩
        case measure => simp [intOf]; omega
    · have hk0 : k = 0 := by omega
      subst hk0
      have hn3 : 1 ≤ n := by have := HN.out; have := HN0.out; omega
      have HN401 : Hid (n ≤ 401) := by have := HN.out; have := HN0.out; show n ≤ 401; omega
      have HT9 : Hid (t ≤ 999000) := by have := HT.out; have := HN.out; have := HN0.out; show t ≤ 999000; omega
      have HN1 : Hid (1 ≤ n) := hn3
      obtain ⟨g, gc, rfl, hgc, hde⟩ := HC.out.de hn3
      have HGC : Hid (n ≤ gc) := hgc
      have HE : Hid (De w wr S a kk cap z t (some ⟨g, 0, none⟩) n R) := hde
      have hn3' : (0 : Int) < (n : Int) := by omega
      clear hgc hde HC HN HT hlt hn3
      go_wp2_with fail
      refine (l1Chance_any S a kk cap z t 10 wr (by have := HT9.out; omega) (by omega) HE.out.src).mono ?_
      rintro e x1 ⟨b1, rfl, hn1⟩
      have HE1 : Hid (De w x1 S a kk cap z (t + 1) (some ⟨g, 0, none⟩) n R) := HE.out.dw hn1.dw
      clear hn1 HE
      cases b1
      case false =>
        go_wp2_with fail
        refine (l1Chance_any S a kk cap z (t + 1) 40 x1 (by have := HT9.out; omega) (by omega) HE1.out.src).mono ?_
        rintro e x5 ⟨b5, rfl, hn5⟩
        have HE5 : Hid (De w x5 S a kk cap z (t + 1 + 1) (some ⟨g, 0, none⟩) n R) := HE1.out.dw hn5.dw
        clear hn5 HE1
        cases b5
        case false =>
          go_wp2_with fail
          have HP : Hid (De w (x5.alloc (.cells #[.int .i64 1, .int .i64 2, .int .i64 1, .int .i64 2, .int .i64 1, .int .i64 3, .int .i64 0, .int .i64 1000] 2)) S a kk cap z (t + 1 + 1) (some ⟨g, 0, none⟩) n _) := HE5.out.up (below_new _ _)
          have HSL : Hid (S < x5.heap.size) := HE5.out.src.lt
          refine (l1Pick_any S a kk cap z (t + 1 + 1) x5.heap.size 0 8 8 (fun i => if i = 0 then (1 : Int) else if i = 1 then (2 : Int) else if i = 2 then (1 : Int) else if i = 3 then (2 : Int) else if i = 4 then (1 : Int) else if i = 5 then (3 : Int) else if i = 6 then (0 : Int) else 1000) _ (by have := HT9.out; omega) (by omega) (by omega) (by have := HSL.out; omega) (by simp [go_sem]) (fun i hi => ?_) HP.out.src).mono ?_
          · rcases i with - | - | - | - | - | - | - | - | i
            · simp [go_sem]
            · simp [go_sem]
            · simp [go_sem]
            · simp [go_sem]
            · simp [go_sem]
            · simp [go_sem]
            · simp [go_sem]
            · simp [go_sem]
            · omega
          rintro e y9 ⟨i, hi, rfl, hn9⟩
          generalize (if i = 0 then (1 : Int) else if i = 1 then (2 : Int) else if i = 2 then (1 : Int) else if i = 3 then (2 : Int) else if i = 4 then (1 : Int) else if i = 5 then (3 : Int) else if i = 6 then (0 : Int) else 1000 : Int) = pv at *
          have HF : Hid (DcA w (.returned (.tuple #[.slice (some ⟨g, 0, none⟩) n gc, .int .i64 pv])) y9) := (HP.out.dw hn9.dw).ans HN401.out HGC.out
          clear hn9 hi HP
          go_wp2_with fail
          exact bodyPost_ret (v := .tuple #[.slice (some ⟨g, 0, none⟩) n gc, .int .i64 pv]) (by simp [results, Try.results26, go_sem]) rfl HF.out
        case true =>
          have HE6 : Hid (De w (x5.alloc (.cells Z 33)) S a kk cap z (t + 1 + 1) (some ⟨x5.heap.size, 0, none⟩) 401 (fun _ => zRec)) := HE5.out.new (below_new _ _) (by simp) (HMR.out x5)
          go_upto_region 14 with fail
          generalize hx6 : x5.alloc (.cells Z 33) = x6 at *
          clear hx6
          go_wp2_with fail
          have HP : Hid (De w (x6.alloc (.cells #[.int .i64 1, .int .i64 2, .int .i64 1, .int .i64 2, .int .i64 1, .int .i64 3, .int .i64 0, .int .i64 1000] 2)) S a kk cap z (t + 1 + 1) (some ⟨x5.heap.size, 0, none⟩) 401 _) := HE6.out.up (below_new _ _)
          have HSL : Hid (S < x6.heap.size) := HE6.out.src.lt
          refine (l1Pick_any S a kk cap z (t + 1 + 1) x6.heap.size 0 8 8 (fun i => if i = 0 then (1 : Int) else if i = 1 then (2 : Int) else if i = 2 then (1 : Int) else if i = 3 then (2 : Int) else if i = 4 then (1 : Int) else if i = 5 then (3 : Int) else if i = 6 then (0 : Int) else 1000) _ (by have := HT9.out; omega) (by omega) (by omega) (by have := HSL.out; omega) (by simp [go_sem]) (fun i hi => ?_) HP.out.src).mono ?_
          · rcases i with - | - | - | - | - | - | - | - | i
            · simp [go_sem]
            · simp [go_sem]
            · simp [go_sem]
            · simp [go_sem]
            · simp [go_sem]
            · simp [go_sem]
            · simp [go_sem]
            · simp [go_sem]
            · omega
          rintro e y9 ⟨i, hi, rfl, hn9⟩
          generalize (if i = 0 then (1 : Int) else if i = 1 then (2 : Int) else if i = 2 then (1 : Int) else if i = 3 then (2 : Int) else if i = 4 then (1 : Int) else if i = 5 then (3 : Int) else if i = 6 then (0 : Int) else 1000 : Int) = pv at *
          have HF : Hid (DcA w (.returned (.tuple #[.slice (some ⟨x5.heap.size, 0, none⟩) 401 401, .int .i64 pv])) y9) := (HP.out.dw hn9.dw).ans (by omega) (by omega)
          clear hn9 hi HP
          go_wp2_with fail
          exact bodyPost_ret (v := .tuple #[.slice (some ⟨x5.heap.size, 0, none⟩) 401 401, .int .i64 pv]) (by simp [results, Try.results26, go_sem]) rfl HF.out
      case true =>
        go_wp2_with fail
        refine (l3Bent_any S a kk cap z (t + 1) x1 (by have := HT9.out; omega) HE1.out.src).mono ?_
        rintro e x2 ⟨r, t2, rfl, ht2, hd2⟩
        have HE2 : Hid (De w x2 S a kk cap z t2 (some ⟨g, 0, none⟩) n R) := HE1.out.dw hd2
        have HT2 : Hid (t2 ≤ 999500) := by have := HT9.out; show t2 ≤ 999500; omega
        clear hd2 ht2 HE1
        obtain ⟨rk, rt, ry, rh, ro, rs, rn, rb⟩ := r
        unfold rV
        have hrow : Row8 x2 g 0 n R := by
          rcases HE2.out.recs with e | ⟨b', off, e, h1, h2, h3⟩
          · have := HN1.out; omega
          · simp only [Option.some.injEq, Addr.mk.injEq, and_true] at e
            obtain ⟨rfl, rfl⟩ := e
            exact h3
        obtain ⟨c0, c1, c2, c3, c4, c5, c6, c7⟩ := hrow.1 0 HN1.out
        have cf := hrow.2
        have HE3 : Hid (De w (set8 x2 g 0 ⟨rk, rt, ry, rh, ro, rs, rn, rb⟩) S a kk cap z t2 (some ⟨g, 0, none⟩) n (upR R 0 ⟨rk, rt, ry, rh, ro, rs, rn, rb⟩)) := HE2.out.set HN1.out _
        clear hrow HE2
        go_upto_region 12 with fail
        generalize hx3 : set8 x2 g 0 ⟨rk, rt, ry, rh, ro, rs, rn, rb⟩ = x3 at *
        unfold set8 at hx3
        simp only [Nat.zero_add] at hx3
        rw [hx3]
        clear hx3 c0 c1 c2 c3 c4 c5 c6 c7 cf
        generalize upR R 0 ⟨rk, rt, ry, rh, ro, rs, rn, rb⟩ = R2 at *
        go_wp2_with fail
        refine (l1Chance_any S a kk cap z (t2) 40 x3 (by have := HT2.out; omega) (by omega) HE3.out.src).mono ?_
        rintro e x5 ⟨b5, rfl, hn5⟩
        have HE5 : Hid (De w x5 S a kk cap z (t2 + 1) (some ⟨g, 0, none⟩) n R2) := HE3.out.dw hn5.dw
        clear hn5 HE3
        cases b5
        case false =>
          go_wp2_with fail
          have HP : Hid (De w (x5.alloc (.cells #[.int .i64 1, .int .i64 2, .int .i64 1, .int .i64 2, .int .i64 1, .int .i64 3, .int .i64 0, .int .i64 1000] 2)) S a kk cap z (t2 + 1) (some ⟨g, 0, none⟩) n _) := HE5.out.up (below_new _ _)
          have HSL : Hid (S < x5.heap.size) := HE5.out.src.lt
          refine (l1Pick_any S a kk cap z (t2 + 1) x5.heap.size 0 8 8 (fun i => if i = 0 then (1 : Int) else if i = 1 then (2 : Int) else if i = 2 then (1 : Int) else if i = 3 then (2 : Int) else if i = 4 then (1 : Int) else if i = 5 then (3 : Int) else if i = 6 then (0 : Int) else 1000) _ (by have := HT2.out; omega) (by omega) (by omega) (by have := HSL.out; omega) (by simp [go_sem]) (fun i hi => ?_) HP.out.src).mono ?_
          · rcases i with - | - | - | - | - | - | - | - | i
            · simp [go_sem]
            · simp [go_sem]
            · simp [go_sem]
            · simp [go_sem]
            · simp [go_sem]
            · simp [go_sem]
            · simp [go_sem]
            · simp [go_sem]
            · omega
          rintro e y9 ⟨i, hi, rfl, hn9⟩
          generalize (if i = 0 then (1 : Int) else if i = 1 then (2 : Int) else if i = 2 then (1 : Int) else if i = 3 then (2 : Int) else if i = 4 then (1 : Int) else if i = 5 then (3 : Int) else if i = 6 then (0 : Int) else 1000 : Int) = pv at *
          have HF : Hid (DcA w (.returned (.tuple #[.slice (some ⟨g, 0, none⟩) n gc, .int .i64 pv])) y9) := (HP.out.dw hn9.dw).ans HN401.out HGC.out
          clear hn9 hi HP
          go_wp2_with fail
          exact bodyPost_ret (v := .tuple #[.slice (some ⟨g, 0, none⟩) n gc, .int .i64 pv]) (by simp [results, Try.results26, go_sem]) rfl HF.out
        case true =>
          have HE6 : Hid (De w (x5.alloc (.cells Z 33)) S a kk cap z (t2 + 1) (some ⟨x5.heap.size, 0, none⟩) 401 (fun _ => zRec)) := HE5.out.new (below_new _ _) (by simp) (HMR.out x5)
          go_upto_region 14 with fail
          generalize hx6 : x5.alloc (.cells Z 33) = x6 at *
          clear hx6
          go_wp2_with fail
          have HP : Hid (De w (x6.alloc (.cells #[.int .i64 1, .int .i64 2, .int .i64 1, .int .i64 2, .int .i64 1, .int .i64 3, .int .i64 0, .int .i64 1000] 2)) S a kk cap z (t2 + 1) (some ⟨x5.heap.size, 0, none⟩) 401 _) := HE6.out.up (below_new _ _)
          have HSL : Hid (S < x6.heap.size) := HE6.out.src.lt
          refine (l1Pick_any S a kk cap z (t2 + 1) x6.heap.size 0 8 8 (fun i => if i = 0 then (1 : Int) else if i = 1 then (2 : Int) else if i = 2 then (1 : Int) else if i = 3 then (2 : Int) else if i = 4 then (1 : Int) else if i = 5 then (3 : Int) else if i = 6 then (0 : Int) else 1000) _ (by have := HT2.out; omega) (by omega) (by omega) (by have := HSL.out; omega) (by simp [go_sem]) (fun i hi => ?_) HP.out.src).mono ?_
          · rcases i with - | - | - | - | - | - | - | - | i
            · simp [go_sem]
            · simp [go_sem]
            · simp [go_sem]
            · simp [go_sem]
            · simp [go_sem]
            · simp [go_sem]
            · simp [go_sem]
            · simp [go_sem]
            · omega
          rintro e y9 ⟨i, hi, rfl, hn9⟩
          generalize (if i = 0 then (1 : Int) else if i = 1 then (2 : Int) else if i = 2 then (1 : Int) else if i = 3 then (2 : Int) else if i = 4 then (1 : Int) else if i = 5 then (3 : Int) else if i = 6 then (0 : Int) else 1000 : Int) = pv at *
          have HF : Hid (DcA w (.returned (.tuple #[.slice (some ⟨x5.heap.size, 0, none⟩) 401 401, .int .i64 pv])) y9) := (HP.out.dw hn9.dw).ans (by omega) (by omega)
          clear hn9 hi HP
          go_wp2_with fail
          exact bodyPost_ret (v := .tuple #[.slice (some ⟨x5.heap.size, 0, none⟩) 401 401, .int .i64 pv]) (by simp [results, Try.results26, go_sem]) rfl HF.out
end Go.Proofs.Ytppckjecidcflaa
namespace Go.Proofs.Ytppckjecidcflaa
open Go.RowKit Go.Deep
set_option linter.unusedVariables false
set_option linter.unusedSimpArgs false
set_option maxRecDepth 20000

theorem undo_ok {r : Rc} {txn y : Int} (h : rcF r = 0) (hk : r.k = 2) (ht : inB txn 1 999 = true) (hy : 1 ≤ y ∧ y ≤ 1000) : rcF ⟨5, txn, r.key, r.hs, r.nw, r.hd, r.old, y⟩ = 0 := by
  obtain ⟨k, t, key, hd, old, hs, nw, bk⟩ := r
  simp only [rcF] at h ⊢
  simp only at hk
  subst hk
  unfold rf at h ⊢
  split at h
  · rename_i h1
    split at h
    · rename_i h2
      unfold rng at h1
      unfold frm at h2
      have e1 : rng 5 txn key nw old y = true := by
        unfold rng
        simp only [Bool.and_eq_true] at h1 ⊢
        obtain ⟨⟨⟨⟨⟨-, -⟩, a2⟩, a3⟩, a4⟩, -⟩ := h1
        refine ⟨⟨⟨⟨⟨by simp [inB], ?_⟩, a2⟩, a4⟩, a3⟩, by simp [inB]; omega⟩
        unfold txb
        simp [ht]
      have e2 : frm 5 key hs nw hd old y = true := by
        unfold frm
        simp only [Bool.and_eq_true] at h2 ⊢
        obtain ⟨⟨⟨-, a2⟩, a3⟩, -⟩ := h2
        refine ⟨⟨⟨by simp [tnk], a3⟩, a2⟩, ?_⟩
        simp; omega
      rw [if_pos e1, if_pos e2]
    · omega
  · omega
theorem cbC_good {R : Nat → Rc} {txn : Int} {n : Nat} (h : cbC R txn n = 0) : n ≤ 400 ∧ rsF R n = 0 ∧ inB txn 1 999 = true := by
  unfold cbC at h
  split at h
  · omega
  · rename_i h1
    split at h
    · rename_i h2
      split at h
      · rename_i h3; exact ⟨by omega, h2, h3⟩
      · omega
    · rename_i h2; exact absurd h h2
theorem rsF_congr {R R' : Nat → Rc} : ∀ n, (∀ i, i < n → R' i = R i) → rsF R' n = rsF R n
  | 0, _ => rfl
  | n + 1, h => by simp only [rsF, rsF_congr n (fun i hi => h i (by omega)), h n (by omega)]
theorem cbC_more {R R' : Nat → Rc} {txn y : Int} {n j : Nat} (h : cbC R txn n = 0) (hn : n < 400) (hR : ∀ i, i < n → R' i = R i) (hj : j < n) (hk : (R j).k = 2) (hy : y = ((j + 1 : Nat) : Int)) (hu : R' n = ⟨5, txn, (R j).key, (R j).hs, (R j).nw, (R j).hd, (R j).old, y⟩) : cbC R' txn (n + 1) = 0 := by
  obtain ⟨h1, h2, h3⟩ := cbC_good h
  have h4 := rsF_good h2 j hj
  refine cb_ok (by omega) ?_ h3
  simp only [rsF]
  rw [rsF_congr n hR, if_pos h2, hu]
  exact undo_ok h4 hk h3 (by omega)
theorem lwBig_any (a : Option Addr) (k cap : Nat) (w : World) : Calls Try.prog 25 #[.slice a k cap] w fun e w' => e = .returned (.bool (decide ((1048576 : Int) < (k : Int)))) ∧ w' = w := by
  go_enter Try.func25, Try.ntmps25
  go_wp2_with fail
  go_ret
  exact ⟨rfl, rfl⟩
set_option maxHeartbeats 2000000 in
theorem lwNums_same (n : Nat) (z : Nat → Int) (a a' : Option Addr) (cap cap' : Nat) (w : World) (hn : n ≤ 100000) (h : IntsAt w a n z) (h' : IntsAt w a' n z) :
    Calls Try.prog 27 #[.slice a n cap, .slice a' n cap'] w fun e w' => e = .returned (.bool true) ∧ Below w.heap.size w w' := by
  have HA : Hid (IntsAt w a n z) := h
  have HA' : Hid (IntsAt w a' n z) := h'
  have hne : ((n : Int) != (n : Int)) = false := by simp
  clear h h'
  go_enter Try.func27, Try.ntmps27
  go_wp2_with fail
  go_loopw [5] (fun i wr => ∃ k : Nat, k ≤ n ∧ i = .int .i64 k ∧ Hid (Below w.heap.size w wr)) (fun i _ => n - (intOf i).toNat)
  case atStart => exact ⟨0, Nat.zero_le _, rfl, Below.refl _ _⟩
  case round =>
    obtain ⟨k, hk, rfl, HB⟩ := hrel
    by_cases hlt : k < n
    · have hlt' : (k : Int) < (n : Int) := by omega
      have hk0 : (0 : Int) ≤ (k : Int) := by omega
      rcases HA.out.below HB.out with h | ⟨b, off, rfl, hl, hc⟩
      · omega
      rcases HA'.out.below HB.out with h | ⟨b', off', rfl, hl', hc'⟩
      · omega
      have q := hc k hlt
      have q' := hc' k hlt
      have hzz : (z k != z k) = false := by simp
      clear hc hc'
      go_wp2_with fail
      go_quiet (fail)
      go_wp2_with fail
      go_roundw
      case rel => exact ⟨k + 1, hlt, by go_num, below_drewN HB.out _⟩
      case measure => simp [intOf]; omega
    · have hkn : k = n := by omega
      have hnl : ¬ ((k : Int) < (n : Int)) := by omega
      go_wp2_with fail
      go_ret
      exact ⟨rfl, HB.out⟩
end Go.Proofs.Ytppckjecidcflaa
namespace Go
section
variable {P : Program} {ops : Array Oper} {Q : Exit → Act → World → Prop} {md : Region.Mode} {S : World → Prop}
/-- Whatever order is picked from here on, and S holds behind every operation but number L. -/
def wpAnyE (P : Program) (md : Region.Mode) (ops : Array Oper) (Q : Exit → Act → World → Prop) (S : World → Prop) (L : Nat) : Nat → Array Bool → Act → World → Prop
  | 0, listed, a, w => Region.ready md ops listed = [] ∧ Q .normal a w
  | fuel + 1, listed, a, w =>
    (Region.ready md ops listed = [] → Q .normal a w) ∧
    ∀ i ∈ Region.ready md ops listed, wpOp P ops Q i (fun a' w' => (i ≠ L → S w') ∧ wpAnyE P md ops Q S L fuel (listed.setIfInBounds i true) a' w') a w
theorem wpAny_of_E {L : Nat} : ∀ (fuel : Nat) (listed : Array Bool) (a : Act) (w : World), wpAnyE P md ops Q S L fuel listed a w → wpAny P md ops Q fuel listed a w
  | 0, _, _, _, h => h
  | fuel + 1, _, _, _, h => ⟨h.1, fun i hi => wpOp_mono (fun a' w' h' => wpAny_of_E fuel _ a' w' h'.2) (h.2 i hi)⟩
theorem wpAnyE_first {L i : Nat} {oi : Oper} {v : Value} (hi : ops[i]? = some oi) (hsel : ∀ (j : Nat) (o : Oper) cs b, ops[j]? = some o → o.op ≠ .select cs b)
    (hQ : ∀ c a w, Q (.panic c) (a.put oi.dst v) w → Q (.panic c) a w) (hL : ∀ o, ops[L]? = some o → ∃ e ∈ o.after, Region.binds md e = true ∧ e.on = i) :
    ∀ (fuel : Nat) (listed : Array Bool) (a : Act) (w : World),
      (∀ j oj, ops[j]? = some oj → j ≠ i → listed.getD j true = false → (∀ e ∈ oj.after, Region.binds md e = true → e.on ≠ i) → oi.apart ops oj = true) →
      i ∈ Region.ready md ops listed → YieldsIf P ops S oi v a → S w →
      wpAnyE P md ops Q S L fuel (listed.setIfInBounds i true) (a.put oi.dst v) w → wpAnyE P md ops Q S L (fuel + 1) listed a w := by
  intro fuel
  induction fuel with
  | zero =>
    intro listed a w _ hr hy hS H
    refine ⟨fun h => (by rw [h] at hr; cases hr), fun j hj => ?_⟩
    by_cases hji : j = i
    · subst hji; exact hy.wpOp hi hS ⟨fun _ => hS, H⟩
    · have := ready_mono hj hji
      rw [H.1] at this
      cases this
  | succ fuel ih =>
    intro listed a w hfree hr hy hS H
    refine ⟨fun h => (by rw [h] at hr; cases hr), fun j hj => ?_⟩
    by_cases hji : j = i
    · subst hji; exact hy.wpOp hi hS ⟨fun _ => hS, H⟩
    · have h1 := H.2 j (ready_mono hj hji)
      obtain ⟨hjun, oj, hoj, hall⟩ := mem_ready.1 hj
      have hnot : ∀ e ∈ oj.after, Region.binds md e = true → e.on ≠ i := fun e he hb heq => by
        have h1 := hall e he hb
        have h0 := (mem_ready.1 hr).1
        rw [heq] at h1
        rcases Nat.lt_or_ge i listed.size with h' | h'
        · simp [h'] at h0 h1; rw [h0] at h1; cases h1
        · simp [Array.getElem?_eq_none h'] at h1
      have hjL : j ≠ L := fun e => by
        subst e
        obtain ⟨e, h1, h2, h3⟩ := hL oj hoj
        exact hnot e h1 h2 h3
      have h2 := wpOp_putIf hoj (hfree j oj hoj hji hjun hnot) (fun cs b => hsel i oi cs b hi) (fun cs b => hsel j oj cs b hoj) hQ hy h1
      have hfree' : ∀ k ok, ops[k]? = some ok → k ≠ i → (listed.setIfInBounds j true).getD k true = false →
          (∀ e ∈ ok.after, Region.binds md e = true → e.on ≠ i) → oi.apart ops ok = true := fun k ok hk hki hun hno => by
        refine hfree k ok hk hki ?_ hno
        by_cases hjk : j = k
        · subst hjk; exact hjun
        · rw [getD_set_ne true hjk] at hun; exact hun
      refine wpOp_mono (fun a' w' h3 => ⟨h3.2.1, ih (listed.setIfInBounds j true) a' w' hfree' (ready_mono hr (Ne.symm hji)) h3.1 (h3.2.1 hjL) ?_⟩) h2
      rw [Array.setIfInBounds_comm _ _ hji]
      exact h3.2.2
theorem wpAnyE_take {L i : Nat} {oi : Oper} {v : Value} {fuel : Nat} {listed : Array Bool} {a : Act} {w : World} (hi : ops[i]? = some oi)
    (hs : Region.noSelect ops = true) (hf : Region.free md ops listed i = true) (hr : (Region.ready md ops listed).contains i = true) (hl : (ops[L]?).all (fun o => o.after.any (fun e => Region.binds md e && e.on == i)) = true)
    (hQ : ∀ c a w, Q (.panic c) (a.put oi.dst v) w → Q (.panic c) a w) (hy : YieldsIf P ops S oi v a) (hS : S w)
    (h : wpAnyE P md ops Q S L fuel (listed.setIfInBounds i true) (a.put oi.dst v) w) : wpAnyE P md ops Q S L (fuel + 1) listed a w :=
  wpAnyE_first hi (Region.noSelect_spec hs) hQ (fun o ho => by
    rw [ho] at hl
    simp only [Option.all_some, Array.any_eq_true] at hl
    obtain ⟨x, hx, h2⟩ := hl
    simp only [Bool.and_eq_true, beq_iff_eq] at h2
    exact ⟨_, Array.getElem_mem hx, h2.1, h2.2⟩) fuel listed a w (Region.free_spec hi hf) (by simpa using hr) hy hS h
theorem wpAnyE_takeD {L i : Nat} {oi : Oper} {v : Value} {fuel : Nat} {listed : Array Bool} {a : Act} {w : World} (d : Option Tmp) (hi : ops[i]? = some oi) (hd : oi.dst = d)
    (hs : Region.noSelect ops = true) (hf : Region.free md ops listed i = true) (hr : (Region.ready md ops listed).contains i = true) (hl : (ops[L]?).all (fun o => o.after.any (fun e => Region.binds md e && e.on == i)) = true)
    (hQ : ∀ c a w, Q (.panic c) (a.put d v) w → Q (.panic c) a w) (hy : YieldsIf P ops S oi v a) (hS : S w)
    (h : wpAnyE P md ops Q S L fuel (listed.setIfInBounds i true) (a.put d v) w) : wpAnyE P md ops Q S L (fuel + 1) listed a w := by
  subst hd
  exact wpAnyE_take hi hs hf hr hl hQ hy hS h
def AllReadyE (P : Program) (md : Region.Mode) (ops : Array Oper) (Q : Exit → Act → World → Prop) (S : World → Prop) (L : Nat) (fuel : Nat) (listed : Array Bool) (a : Act) (w : World) (rs : List Nat) : Prop :=
  ∀ i ∈ rs, wpOp P ops Q i (fun a' w' => (i ≠ L → S w') ∧ wpAnyE P md ops Q S L fuel (listed.setIfInBounds i true) a' w') a w
theorem AllReadyE.nil {L fuel : Nat} {listed : Array Bool} {a : Act} {w : World} : AllReadyE P md ops Q S L fuel listed a w [] := fun _ h => by cases h
theorem AllReadyE.cons {L fuel : Nat} {listed : Array Bool} {a : Act} {w : World} {i : Nat} {o : Oper} {rs : List Nat} (ho : ops[i]? = some o)
    (h : ∀ K' : Act → World → Prop, Shut (∀ a w, S w → (S w → wpAnyE P md ops Q S L fuel (listed.setIfInBounds i true) a w) → K' a w) → if Region.wanted o (yielded ops a.tmps) = true then Oper.wp P o a w K' Q else K' (a.put o.dst undef) w)
    (hs : AllReadyE P md ops Q S L fuel listed a w rs) : AllReadyE P md ops Q S L fuel listed a w (i :: rs) := fun j hj => by
  rcases List.mem_cons.1 hj with rfl | hj
  · exact wpOp_step ho (fun K' hK => h K' (fun a w hS hW => hK a w ⟨fun _ => hS, hW hS⟩))
  · exact hs j hj
theorem AllReadyE.last {L fuel : Nat} {listed : Array Bool} {a : Act} {w : World} {o : Oper} (ho : ops[L]? = some o)
    (h : ∀ K' : Act → World → Prop, Shut (∀ a w, wpAnyE P md ops Q S L fuel (listed.setIfInBounds L true) a w → K' a w) → if Region.wanted o (yielded ops a.tmps) = true then Oper.wp P o a w K' Q else K' (a.put o.dst undef) w) :
    AllReadyE P md ops Q S L fuel listed a w [L] := fun j hj => by
  rcases List.mem_cons.1 hj with rfl | hj
  · exact wpOp_step ho (fun K' hK => h K' (fun a w hW => hK a w ⟨fun h => absurd rfl h, hW⟩))
  · cases hj
theorem wpAnyE_ready {L : Nat} {rs : List Nat} {fuel : Nat} {listed : Array Bool} {a : Act} {w : World} (hr : Region.ready md ops listed = rs) (hne : rs ≠ [])
    (h : AllReadyE P md ops Q S L fuel listed a w rs) : wpAnyE P md ops Q S L (fuel + 1) listed a w := ⟨fun h0 => absurd (hr ▸ h0) hne, hr ▸ h⟩
theorem wpAnyE_done {L : Nat} {listed : Array Bool} {a : Act} {w : World} (hr : Region.ready md ops listed = []) (h : Q .normal a w) :
    ∀ fuel, wpAnyE P md ops Q S L fuel listed a w
  | 0 => ⟨hr, h⟩
  | _ + 1 => ⟨fun _ => h, by rw [hr]; simp⟩
theorem wp_region_E (L : Nat) {id : Nat} {a : Act} {w : World} (hm : P.follows .mixedOrders = true) (hS : S w.drew)
    (h : S w.drew → wpAnyE P .any ops Q S L ops.size (Array.replicate ops.size false) a w.drew) : (Code.region id ops true).wp P Q a w :=
  wp_region_any hm (wpAny_of_E _ _ _ _ (h hS))
end
end Go
namespace Go.Proofs.Ytppckjecidcflaa
open Go.RowKit Go.Deep
set_option linter.unusedVariables false
set_option linter.unusedSimpArgs false
set_option maxRecDepth 20000

theorem iresOk {c : Int} {zs : List Int} {w w' : World} {e : Ending} (h : IRes c zs w e w') (hc : c = 0) : ∃ a cap, e = .returned (.agg #[.int .i64 0, .slice a zs.length cap]) ∧ Below w.heap.size w w' ∧ OwnI w' w.heap.size w'.heap.size a zs.length (zI zs) := by
  subst hc
  unfold IRes at h
  simpa using h
theorem iresErr {c : Int} {zs : List Int} {w w' : World} {e : Ending} (h : IRes c zs w e w') (hc : c ≠ 0) : ∃ a cap, e = .returned (.agg #[.int .i64 c, .slice a 0 cap]) ∧ Below w.heap.size w w' := by
  unfold IRes at h
  rw [if_neg hc] at h
  obtain ⟨a, cap, h1, h2, -⟩ := h
  exact ⟨a, cap, h1, h2⟩
theorem iresOkC {c : Int} {zs : List Int} {w w' : World} {e : Ending} (h : IResC c zs w e w') (hc : c = 0) : ∃ a cap, e = .returned (.agg #[.int .i64 0, .slice a zs.length cap]) ∧ zs.length ≤ cap ∧ Below w.heap.size w w' ∧ OwnI w' w.heap.size w'.heap.size a zs.length (zI zs) := by
  subst hc
  unfold IResC at h
  simpa using h
theorem grown_below {W u u' : World} {r : Option Nat} (hS : Below W.heap.size W u) (hg : u.grownBy u' r) (h : ∀ q, r = some q → W.heap.size ≤ q) : Below W.heap.size W u' := hS.grown hg hS.size h
theorem recs_of {w : World} {base n : Nat} {a : Option Addr} {R : Nat → Rc} (h : n = 0 ∨ ∃ g, a = some ⟨g, 0, none⟩ ∧ base ≤ g ∧ g < w.heap.size ∧ Row8 w g 0 n R) : RecsAt w a n R := by
  rcases h with h | ⟨g, rfl, -, h2, h3⟩
  · exact .inl h
  · exact .inr ⟨g, 0, rfl, h2, h3.1⟩
theorem run_bs08 (w : World) : (Instr.buildSlice 46 0 #[]).run Try.prog w = .ok (.slice (some ⟨w.heap.size, 0, none⟩) 0 0) (w.alloc (.cells #[] 33)) := by
  obtain ⟨i0, hi, hzz⟩ := Option.map_eq_some_iff.1 info8
  simp [Instr.buildSlice, Sem.run_bind, run_underlying Try.underlying46, sizeOf, typeInfo, hi, Instr.fill, newRow, show Array.range 0 = #[] from rfl]
theorem step_bs08 {ops : Array Oper} {o : Oper} {a : Act} {K : Act → World → Prop} {Q : Exit → Act → World → Prop} {E : Prop} (w : World) (d : Option Tmp) (hd : o.dst = d) (hgd : o.guard = none) (ho : o.op = .buildSlice 46 0 #[]) (base : Nat) (hb : base ≤ w.heap.size)
    (h : ∀ v w', w'.ownsRow base 33 8 v 0 (r8s (fun _ => zRec) 0) → v.ownBlock = some w.heap.size → Below w.heap.size w w' → K (a.put d v) w') : if Region.wanted o (yielded ops a.tmps) = true then Oper.wp Try.prog o a w K Q else E := by
  have hw : Region.wanted o (yielded ops a.tmps) = true := by simp [Region.wanted, hgd]
  rw [if_pos hw]
  subst hd
  unfold Oper.wp execOp
  simp only [ho, List.map_toArray, List.map_nil, run_bs08 w, Sem.run_bind, Sem.run_pure, Result.andThen_ok]
  exact h _ _ (World.ownsRow_made w #[] 0 hb (by unfold maxLen; omega) rfl) rfl (below_new _ _)
theorem run_bs8 (w : World) (k t key : Int) (hd : Bool) (old : Int) (hs : Bool) (nw bk : Int) : (Instr.buildSlice 46 1 #[(0, .agg #[.int .i64 k, .int .i64 t, .int .i64 key, .bool hd, .int .i64 old, .bool hs, .int .i64 nw, .int .i64 bk])]).run Try.prog w = .ok (.slice (some ⟨w.heap.size, 0, none⟩) 1 1) (w.alloc (.cells #[.int .i64 k, .int .i64 t, .int .i64 key, .bool hd, .int .i64 old, .bool hs, .int .i64 nw, .int .i64 bk] 33)) := by
  obtain ⟨i0, hi, hzz⟩ := Option.map_eq_some_iff.1 info8
  simp only [Prod.mk.injEq] at hzz
  obtain ⟨hz0, hz1, hz2⟩ := hzz
  simp [Instr.buildSlice, Sem.run_bind, run_underlying Try.underlying46, sizeOf, typeInfo, hi, hz1, zeroValue, hz0, Instr.fill, Value.cells, newRow, show Array.range 8 = #[0, 1, 2, 3, 4, 5, 6, 7] from rfl]
theorem step_bs8 {ops : Array Oper} {o : Oper} {a : Act} {K : Act → World → Prop} {Q : Exit → Act → World → Prop} {E : Prop} (w : World) (d : Option Tmp) (hd : o.dst = d) (hgd : o.guard = none) (x : Operand) (ho : o.op = .buildSlice 46 1 #[(0, x)]) (r : Rc) (hx : a.eval x = rV r)
    (h : ∀ X w', C8 w' X 0 r → w.heap.size ≤ X → Below w.heap.size w w' → K (a.put d (.slice (some ⟨X, 0, none⟩) 1 1)) w') : if Region.wanted o (yielded ops a.tmps) = true then Oper.wp Try.prog o a w K Q else E := by
  have hw : Region.wanted o (yielded ops a.tmps) = true := by simp [Region.wanted, hgd]
  rw [if_pos hw]
  subst hd
  unfold Oper.wp execOp
  unfold rV at hx
  simp only [ho, hx, List.map_toArray, List.map_cons, List.map_nil, run_bs8 w, Sem.run_bind, Sem.run_pure, Result.andThen_ok]
  exact h _ _ ⟨by simp [go_sem], by simp [go_sem], by simp [go_sem], by simp [go_sem], by simp [go_sem], by simp [go_sem], by simp [go_sem], by simp [go_sem]⟩ (Nat.le_refl _) (below_new _ _)
theorem step_app8 {ops : Array Oper} {o : Oper} {a : Act} {K : Act → World → Prop} {Q : Exit → Act → World → Prop} {E : Prop} (w : World) (d : Option Tmp) (hd : o.dst = d) (hgd : o.guard = none) (s x : Operand)
    (ho : o.op = .call { callee := .builtin .append, args := #[s, x], argTypes := #[46, 46] })
    (base : Nat) (v : Value) (k : Nat) (R : Nat → Rc) (hs : a.eval s = v) (hown : w.ownsRow base 33 8 v k (r8s R k))
    (X O cx : Nat) (r : Rc) (hx : a.eval x = .slice (some ⟨X, O, none⟩) 1 cx) (hC : C8 w X O r) (hlen : k ≤ 100000) (hbase : base ≤ w.heap.size)
    (h : ∀ v' w', w'.ownsRow base 33 8 v' (k + 1) (r8s (upR R k r) (k + 1)) → w.grownBy w' v.ownBlock → K (a.put d v') w') : if Region.wanted o (yielded ops a.tmps) = true then Oper.wp Try.prog o a w K Q else E := by
  have hw : Region.wanted o (yielded ops a.tmps) = true := by simp [Region.wanted, hgd]
  rw [if_pos hw]
  subst hd
  exact wp_app8 w s x ho base v k R hs hown X O cx r hx hC hlen hbase h
theorem step_app8m {ops : Array Oper} {o : Oper} {a : Act} {K : Act → World → Prop} {Q : Exit → Act → World → Prop} {E : Prop} (w : World) (d : Option Tmp) (hd : o.dst = d) (hgd : o.guard = none) (s x : Operand)
    (ho : o.op = .call { callee := .builtin .append, args := #[s, x], argTypes := #[46, 46] })
    (base : Nat) (v : Value) (hs : a.eval s = v) (hown : w.ownsRow base 33 8 v 0 (r8s (fun _ => zRec) 0))
    (b off n c : Nat) (R : Nat → Rc) (hx : a.eval x = .slice (some ⟨b, off, none⟩) n c) (hC : ∀ i, i < n → C8 w b (off + i * 8) (R i)) (hlen : n ≤ 100000) (hbase : base ≤ w.heap.size)
    (h : ∀ v' w', w'.ownsRow base 33 8 v' n (r8s R n) → w.grownBy w' v.ownBlock → K (a.put d v') w') : if Region.wanted o (yielded ops a.tmps) = true then Oper.wp Try.prog o a w K Q else E := by
  have hw : Region.wanted o (yielded ops a.tmps) = true := by simp [Region.wanted, hgd]
  rw [if_pos hw]
  subst hd
  obtain ⟨i0, hi, hzz⟩ := Option.map_eq_some_iff.1 info8
  simp only [Prod.mk.injEq] at hzz
  obtain ⟨hz0, hz1, hz2⟩ := hzz
  refine wp_append_own w s x 46 ho base 33 i0 _ 8 64 Try.underlying46 hi hz0 hz1 hz2 rfl (by decide) v 0 (r8s (fun _ => zRec) 0) hs hown ⟨b, off, none⟩ n c (r8s R n) hx (r8s_len R n) (fun j u hj => ?_) (r8s_one R n) (by unfold maxLen; omega) (by omega) hbase fun v' w' h2 h3 _ => h v' w' (by simpa [r8s] using h2) h3
  have hl : j < n * 8 := by have := (List.getElem?_eq_some_iff.1 hj).1; rw [r8s_len] at this; exact this
  have hq : j / 8 < n := by omega
  have e : j = j / 8 * 8 + j % 8 := by omega
  rw [WideShapes.add_plain]
  have h1 := r8s_get R n (j / 8) (j % 8) hq (by omega)
  rw [← e, hj] at h1
  have h2 := (hC (j / 8) hq).list (j % 8) u h1.symm
  rw [show off + j = off + j / 8 * 8 + j % 8 by omega]
  exact h2
end Go.Proofs.Ytppckjecidcflaa
