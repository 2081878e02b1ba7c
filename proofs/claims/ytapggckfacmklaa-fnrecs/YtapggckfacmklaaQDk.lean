/- spec.l3Pack: what is kept while rows are appended. -/
import Derived.Test.YtapggckfacmklaaQOpen
import Derived.Test.YtapggckfacmklaaQCel
import Derived.Test.YtapggckfacmklaaQUt
import Derived.Deep.RegionLaw
import Derived.Test.YtapggckfacmklaaQUp
namespace Go.Proofs.Ytapggckfacmklaa
open Go.RowKit Go.Deep
set_option linter.unusedVariables false
set_option maxRecDepth 20000

/-- The n pages at 'a': page i has L i bytes, Z i. -/
def PagesAt (w : World) (a : Option Addr) (n : Nat) (L : Nat → Nat) (Z : Nat → Nat → Int) : Prop :=
  n = 0 ∨ ∃ b off, a = some ⟨b, off, none⟩ ∧ b < w.heap.size ∧ ∀ i, i < n → ∃ ai ci, w.cell? ⟨b, off + i, none⟩ = some (.slice ai (L i) ci) ∧ BytesAt w ai (L i) (Z i) ∧ L i ≤ ci
/-- The n loose writes at 'a'. -/
def LoosesAt (w : World) (a : Option Addr) (n : Nat) (P T : Nat → Int) (L : Nat → Nat) (Z : Nat → Nat → Int) : Prop :=
  n = 0 ∨ ∃ b off, a = some ⟨b, off, none⟩ ∧ b < w.heap.size ∧ ∀ i, i < n → w.cell? ⟨b, off + i * 3, none⟩ = some (.int .i64 (P i)) ∧ w.cell? ⟨b, off + i * 3 + 1, none⟩ = some (.int .i64 (T i)) ∧
    ∃ ai ci, w.cell? ⟨b, off + i * 3 + 2, none⟩ = some (.slice ai (L i) ci) ∧ BytesAt w ai (L i) (Z i) ∧ L i ≤ ci
theorem PagesAt.below {w w' : World} {a : Option Addr} {n : Nat} {L : Nat → Nat} {Z : Nat → Nat → Int} (h : PagesAt w a n L Z) (hb : Below w.heap.size w w') : PagesAt w' a n L Z := by
  rcases h with h | ⟨b, off, ha, hl, hc⟩
  · exact .inl h
  · refine .inr ⟨b, off, ha, Nat.lt_of_lt_of_le hl hb.size, fun i hi => ?_⟩
    obtain ⟨ai, ci, h1, h2, h3⟩ := hc i hi
    exact ⟨ai, ci, (hb.cell (p := ⟨b, off + i, none⟩) hl).trans h1, h2.below hb, h3⟩
theorem LoosesAt.below {w w' : World} {a : Option Addr} {n : Nat} {P T : Nat → Int} {L : Nat → Nat} {Z : Nat → Nat → Int} (h : LoosesAt w a n P T L Z) (hb : Below w.heap.size w w') : LoosesAt w' a n P T L Z := by
  rcases h with h | ⟨b, off, ha, hl, hc⟩
  · exact .inl h
  · refine .inr ⟨b, off, ha, Nat.lt_of_lt_of_le hl hb.size, fun i hi => ?_⟩
    obtain ⟨h0, h1, ai, ci, h2, h3, h4⟩ := hc i hi
    exact ⟨(hb.cell (p := ⟨b, _, none⟩) hl).trans h0, (hb.cell (p := ⟨b, _, none⟩) hl).trans h1, ai, ci, (hb.cell (p := ⟨b, _, none⟩) hl).trans h2, h3.below hb, h4⟩
def sumL (L : Nat → Nat) : Nat → Nat
  | 0 => 0
  | k + 1 => sumL L k + L k

/-! ### laws.szDisk -/
/-- Pages in blocks of their own from lo on, below hi. -/
def OwnP (w : World) (lo hi : Nat) (a : Option Addr) (n : Nat) (L : Nat → Nat) (Z : Nat → Nat → Int) : Prop :=
  hi ≤ w.heap.size ∧ (n = 0 ∨ ∃ b off, a = some ⟨b, off, none⟩ ∧ lo ≤ b ∧ b < hi ∧ ∃ g o c : Nat → Nat, (∀ i j, i < n → j < n → g i = g j → i = j) ∧
    ∀ i, i < n → g i ≠ b ∧ lo ≤ g i ∧ g i < hi ∧ w.cell? ⟨b, off + i, none⟩ = some (.slice (some ⟨g i, o i, none⟩) (L i) (c i)) ∧ Row1 w (g i) (o i) (L i) (Z i) ∧ L i ≤ c i)
/-- Loose writes in blocks of their own from lo on, below hi. -/
def OwnL (w : World) (lo hi : Nat) (a : Option Addr) (n : Nat) (P T : Nat → Int) (L : Nat → Nat) (Z : Nat → Nat → Int) : Prop :=
  hi ≤ w.heap.size ∧ (n = 0 ∨ ∃ b off, a = some ⟨b, off, none⟩ ∧ lo ≤ b ∧ b < hi ∧ ∃ g o c : Nat → Nat, (∀ i j, i < n → j < n → g i = g j → i = j) ∧
    ∀ i, i < n → g i ≠ b ∧ lo ≤ g i ∧ g i < hi ∧ w.cell? ⟨b, off + i * 3, none⟩ = some (.int .i64 (P i)) ∧ w.cell? ⟨b, off + i * 3 + 1, none⟩ = some (.int .i64 (T i)) ∧
      w.cell? ⟨b, off + i * 3 + 2, none⟩ = some (.slice (some ⟨g i, o i, none⟩) (L i) (c i)) ∧ w.frozen? ⟨b, off + i * 3, none⟩ = false ∧ w.frozen? ⟨b, off + i * 3 + 1, none⟩ = false ∧ Row1 w (g i) (o i) (L i) (Z i) ∧ L i ≤ c i)
theorem Row1.at {w : World} {b off n : Nat} {z : Nat → Int} (h : Row1 w b off n z) (hb : b < w.heap.size) : BytesAt w (some ⟨b, off, none⟩) n z := .inr ⟨b, off, rfl, hb, h.1⟩
theorem Row1.block {w w' : World} {b off n : Nat} {z : Nat → Int} (h : Row1 w b off n z) (e : w'.heap[b]? = w.heap[b]?) : Row1 w' b off n z :=
  ⟨fun i hi => (World.cell?_of_block (w := w) (a := ⟨b, _, none⟩) e).trans (h.1 i hi), fun i hi => (World.frozen?_of_block (w := w) (a := ⟨b, _, none⟩) e).trans (h.2 i hi)⟩
theorem Row1.of_row {w : World} {b n : Nat} {z : Nat → Int} (h : w.rowIs b 5 n (fun i => .int .u8 (z i))) : Row1 w b 0 n z :=
  ⟨fun i hi => by rw [Nat.zero_add]; exact h.cell hi, fun i hi => h.frozen _⟩
theorem OwnP.at {w : World} {lo hi : Nat} {a : Option Addr} {n : Nat} {L : Nat → Nat} {Z : Nat → Nat → Int} (h : OwnP w lo hi a n L Z) : PagesAt w a n L Z := by
  obtain ⟨h0, h1 | ⟨b, off, ha, _, hl, g, o, c, _, hc⟩⟩ := h
  · exact .inl h1
  · refine .inr ⟨b, off, ha, by omega, fun i hi => ?_⟩
    obtain ⟨_, _, hg, h2, h3, h4⟩ := hc i hi
    exact ⟨_, _, h2, h3.at (by omega), h4⟩
theorem OwnL.at {w : World} {lo hi : Nat} {a : Option Addr} {n : Nat} {P T : Nat → Int} {L : Nat → Nat} {Z : Nat → Nat → Int} (h : OwnL w lo hi a n P T L Z) : LoosesAt w a n P T L Z := by
  obtain ⟨h0, h1 | ⟨b, off, ha, _, hl, g, o, c, _, hc⟩⟩ := h
  · exact .inl h1
  · refine .inr ⟨b, off, ha, by omega, fun i hi => ?_⟩
    obtain ⟨_, _, hg, h2, h3, h4, _, _, h5, h6⟩ := hc i hi
    exact ⟨h2, h3, _, _, h4, h5.at (by omega), h6⟩
theorem OwnP.writes {w w' : World} {lo hi lo' hi' : Nat} {a : Option Addr} {n : Nat} {L : Nat → Nat} {Z : Nat → Nat → Int} (h : OwnP w lo hi a n L Z) (hw : Writes lo' hi' w w') (hd : hi ≤ lo' ∨ hi' ≤ lo) : OwnP w' lo hi a n L Z := by
  obtain ⟨h0, h1 | ⟨b, off, ha, hlo, hl, g, o, c, hj, hc⟩⟩ := h
  · exact ⟨Nat.le_trans h0 hw.size, .inl h1⟩
  · refine ⟨Nat.le_trans h0 hw.size, .inr ⟨b, off, ha, hlo, hl, g, o, c, hj, fun i hi => ?_⟩⟩
    obtain ⟨k0, k1, k2, k3, k4, k5⟩ := hc i hi
    exact ⟨k0, k1, k2, (hw.cell (by omega) (by omega) _).trans k3, k4.block (hw.block _ (by omega) (by omega)), k5⟩
theorem OwnL.writes {w w' : World} {lo hi lo' hi' : Nat} {a : Option Addr} {n : Nat} {P T : Nat → Int} {L : Nat → Nat} {Z : Nat → Nat → Int} (h : OwnL w lo hi a n P T L Z) (hw : Writes lo' hi' w w') (hd : hi ≤ lo' ∨ hi' ≤ lo) : OwnL w' lo hi a n P T L Z := by
  obtain ⟨h0, h1 | ⟨b, off, ha, hlo, hl, g, o, c, hj, hc⟩⟩ := h
  · exact ⟨Nat.le_trans h0 hw.size, .inl h1⟩
  · refine ⟨Nat.le_trans h0 hw.size, .inr ⟨b, off, ha, hlo, hl, g, o, c, hj, fun i hi => ?_⟩⟩
    obtain ⟨k0, k1, k2, k3, k4, k5, k6, k7, k8, k9⟩ := hc i hi
    have e := hw.block b (by omega) (by omega)
    exact ⟨k0, k1, k2, (hw.cell (by omega) (by omega) _).trans k3, (hw.cell (by omega) (by omega) _).trans k4, (hw.cell (by omega) (by omega) _).trans k5, (World.frozen?_of_block (w := w) (a := ⟨b, _, none⟩) e).trans k6, (World.frozen?_of_block (w := w) (a := ⟨b, _, none⟩) e).trans k7, k8.block (hw.block _ (by omega) (by omega)), k9⟩
theorem OwnP.wide {w : World} {lo hi lo' hi' : Nat} {a : Option Addr} {n : Nat} {L : Nat → Nat} {Z : Nat → Nat → Int} (h : OwnP w lo hi a n L Z) (h1 : lo' ≤ lo) (h2 : hi ≤ hi') (h3 : hi' ≤ w.heap.size) : OwnP w lo' hi' a n L Z := by
  obtain ⟨h0, h4 | ⟨b, off, ha, hlo, hl, g, o, c, hj, hc⟩⟩ := h
  · exact ⟨h3, .inl h4⟩
  · refine ⟨h3, .inr ⟨b, off, ha, by omega, by omega, g, o, c, hj, fun i hi => ?_⟩⟩
    obtain ⟨k0, k1, k2, r⟩ := hc i hi
    exact ⟨k0, by omega, by omega, r⟩
theorem OwnL.wide {w : World} {lo hi lo' hi' : Nat} {a : Option Addr} {n : Nat} {P T : Nat → Int} {L : Nat → Nat} {Z : Nat → Nat → Int} (h : OwnL w lo hi a n P T L Z) (h1 : lo' ≤ lo) (h2 : hi ≤ hi') (h3 : hi' ≤ w.heap.size) : OwnL w lo' hi' a n P T L Z := by
  obtain ⟨h0, h4 | ⟨b, off, ha, hlo, hl, g, o, c, hj, hc⟩⟩ := h
  · exact ⟨h3, .inl h4⟩
  · refine ⟨h3, .inr ⟨b, off, ha, by omega, by omega, g, o, c, hj, fun i hi => ?_⟩⟩
    obtain ⟨k0, k1, k2, r⟩ := hc i hi
    exact ⟨k0, by omega, by omega, r⟩
theorem OwnP.below {w w' : World} {lo hi : Nat} {a : Option Addr} {n : Nat} {L : Nat → Nat} {Z : Nat → Nat → Int} (h : OwnP w lo hi a n L Z) (hb : Below w.heap.size w w') : OwnP w' lo hi a n L Z :=
  h.writes (Writes.of_below (lo := hi) (hi := hi) hb) (.inl (Nat.le_refl _))
theorem OwnL.below {w w' : World} {lo hi : Nat} {a : Option Addr} {n : Nat} {P T : Nat → Int} {L : Nat → Nat} {Z : Nat → Nat → Int} (h : OwnL w lo hi a n P T L Z) (hb : Below w.heap.size w w') : OwnL w' lo hi a n P T L Z :=
  h.writes (Writes.of_below (lo := hi) (hi := hi) hb) (.inl (Nat.le_refl _))

/-! ### laws.toByteSS -/
theorem info22 : (Try.prog.info? 22).map (fun i => (i.zero, i.size, i.bytes)) = some (some (.slice none 0 0), 1, 24) := by kernel_rfl
/-- k of n pages are copied. -/
def TP (w wr : World) (k n : Nat) (L : Nat → Nat) (Z : Nat → Nat → Int) : Prop :=
  ∃ g : Nat → Nat, (∀ i j, i < k → j < k → g i = g j → i = j) ∧ (∀ i, i < k → w.heap.size < g i ∧ g i < wr.heap.size ∧ wr.rowIs (g i) 5 (L i) (fun j => .int .u8 (Z i j))) ∧
    wr.rowIs w.heap.size 22 n (fun i => if i < k then .slice (some ⟨g i, 0, none⟩) (L i) (L i) else .slice none 0 0)
theorem TP.step {w wr w1 : World} {k n : Nat} {L : Nat → Nat} {Z : Nat → Nat → Int} (h : TP w wr k n L Z) (hb : Below wr.heap.size wr w1) (hr : w1.rowIs wr.heap.size 5 (L k) (fun j => .int .u8 (Z k j))) :
    TP w (w1.setCell ⟨w.heap.size, k, none⟩ (.slice (some ⟨wr.heap.size, 0, none⟩) (L k) (L k))) (k + 1) n L Z := by
  obtain ⟨g, hj, hg, hrow⟩ := h
  have hw := hrow.lt
  have hs1 := hr.lt
  refine ⟨fun i => if i < k then g i else wr.heap.size, fun i j hi hj' e => ?_, fun i hi => ?_, ?_⟩
  · by_cases c1 : i < k <;> by_cases c2 : j < k <;> simp only [c1, c2, if_true, if_false] at e
    · exact hj i j c1 c2 e
    · have := hg i c1; omega
    · have := hg j c2; omega
    · omega
  · by_cases c1 : i < k
    · simp only [c1, if_true]
      obtain ⟨g0, g1, g2⟩ := hg i c1
      refine ⟨g0, by simp [World.setCell]; omega, World.rowIs.setOther (g2.of_block (hb.block _ g1)) (by show g i ≠ w.heap.size; omega) _⟩
    · have : i = k := by omega
      subst this
      simp only [Nat.lt_irrefl, if_false]
      exact ⟨hw, by simp [World.setCell]; omega, hr.setOther (by show wr.heap.size ≠ w.heap.size; omega) _⟩
  · refine ((hrow.of_block (hb.block _ hw)).set k _).congr fun i _ => ?_
    by_cases e : i = k
    · subst e; simp
    · by_cases c1 : i < k
      · have : i < k + 1 := by omega
        simp [e, c1, this]
      · have : ¬ i < k + 1 := by omega
        simp [e, c1, this]
theorem TP.own {w wr : World} {n : Nat} {L : Nat → Nat} {Z : Nat → Nat → Int} (h : TP w wr n n L Z) : OwnP wr w.heap.size wr.heap.size (some ⟨w.heap.size, 0, none⟩) n L Z := by
  obtain ⟨g, hj, hg, hrow⟩ := h
  refine ⟨Nat.le_refl _, .inr ⟨_, _, rfl, Nat.le_refl _, hrow.lt, g, fun _ => 0, L, hj, fun i hi => ?_⟩⟩
  obtain ⟨g0, g1, g2⟩ := hg i hi
  refine ⟨by omega, by omega, g1, ?_, Row1.of_row g2, Nat.le_refl _⟩
  rw [Nat.zero_add, hrow.cell hi]
  simp [hi]
theorem run_app_zero (w : World) (ty : TypeId) (ba : Option Addr) (n c : Nat) (xa : Option Addr) (xc : Nat) (h : n ≤ c) :
    (Builtin.append_ #[22, 22] ty #[.slice ba n c, .slice xa 0 xc]).run Try.prog w = .ok (.slice ba n c) w := by
  cases ba <;> cases xa <;> simp [Builtin.append_, go_sem, h, Builtin.firstCells, storeCells]
theorem grown_refl (w : World) (r : Option Nat) : w.grownBy w r := ⟨rfl, rfl, rfl, Nat.le_refl _, fun _ _ _ => rfl⟩
theorem zL_bl (z : Nat → Int) (n : Nat) : ∀ j u, (bl (zL z n))[j]? = some u → j < n ∧ u = .int .u8 (z j) := by
  intro j u h
  have hj : j < n := by
    have := (List.getElem?_eq_some_iff.1 h).1
    simpa [bl, zL] using this
  simp [bl, zL, hj] at h
  exact ⟨hj, h.symm⟩
theorem wp_appB {o : Oper} {a : Act} {K : Act → World → Prop} {Q : Exit → Act → World → Prop} (w : World) (s x : Operand)
    (ho : o.op = .call { callee := .builtin .append, args := #[s, x], argTypes := #[22, 22] })
    (base : Nat) (v : Value) (zs : List Int) (hs : a.eval s = v) (hown : w.ownsRow base 5 1 v zs.length (bl zs))
    (xa : Option Addr) (m c : Nat) (z : Nat → Int) (hx : a.eval x = .slice xa m c) (hb : BytesAt w xa m z) (h63 : zs.length + m ≤ 100000) (hbase : base ≤ w.heap.size)
    (h : ∀ v' w', w'.ownsRow base 5 1 v' (zs ++ zL z m).length (bl (zs ++ zL z m)) → w.grownBy w' v.ownBlock → K (a.put o.dst v') w') : o.wp Try.prog a w K Q := by
  by_cases hm : m = 0
  · subst hm
    obtain ⟨ba, cap, rfl⟩ : ∃ ba cap, v = .slice ba zs.length cap := by
      rcases hown.2 with ⟨rfl, h0⟩ | ⟨g, cap, cur, rfl, _⟩
      · exact ⟨none, 0, by rw [h0]⟩
      · exact ⟨_, cap, rfl⟩
    have hr := run_app_zero w o.type ba zs.length cap xa c (own_cap hown)
    unfold Oper.wp execOp
    simp only [ho, resolve, invoke, builtin, Sem.run_bind, Sem.run_pure, Result.andThen_ok, List.map_toArray, List.map_cons, List.map_nil, hs, hx, hr]
    refine h _ w ?_ (grown_refl _ _)
    have e : zs ++ zL z 0 = zs := by simp [zL]
    rw [e]
    exact hown
  · rcases hb with hb | ⟨b, off, rfl, hbl, hc⟩
    · exact absurd hb hm
    · obtain ⟨i0, hi, hz0, hz1, hz2⟩ := info_parts info5
      refine wp_append_own w s x 22 ho base 5 i0 _ 1 1 Try.underlying22 hi hz0 hz1 hz2 rfl (by decide) v zs.length (bl zs) hs hown ⟨b, off, none⟩ m c (bl (zL z m)) hx (by rw [bl_len, zL_len]; omega) (fun j u hj => ?_) (bl_one _) (by unfold maxLen; omega) (by omega) hbase fun v' w' h2 h3 _ => h v' w' ?_ h3
      · obtain ⟨h1, rfl⟩ := zL_bl z m j u hj
        rw [WideShapes.add_plain]
        exact hc j h1
      · rw [List.length_append, zL_len, bl_app]
        exact h2
theorem wpList_appB {ops : Array Oper} {rest : List Oper} {o : Oper} {a : Act} {Q : Exit → Act → World → Prop} (w : World) (hgd : o.guard = none) (s x : Operand)
    (ho : o.op = .call { callee := .builtin .append, args := #[s, x], argTypes := #[22, 22] })
    (base : Nat) (v : Value) (zs : List Int) (hs : a.eval s = v) (hown : w.ownsRow base 5 1 v zs.length (bl zs))
    (xa : Option Addr) (m c : Nat) (z : Nat → Int) (hx : a.eval x = .slice xa m c) (hb : BytesAt w xa m z) (h63 : zs.length + m ≤ 100000) (hbase : base ≤ w.heap.size)
    (h : ∀ v' w', w'.ownsRow base 5 1 v' (zs ++ zL z m).length (bl (zs ++ zL z m)) → w.grownBy w' v.ownBlock → wpList Try.prog ops Q rest (a.put o.dst v') w') : wpList Try.prog ops Q (o :: rest) a w :=
  wpList_plain hgd fun _ hK => wp_appB w s x ho base v zs hs hown xa m c z hx hb h63 hbase fun v' w' h2 h3 => hK _ _ (h v' w' h2 h3)
theorem step_appZ {ops : Array Oper} {o : Oper} {a : Act} {K : Act → World → Prop} {Q : Exit → Act → World → Prop} {E : Prop} (w : World) (hgd : o.guard = none) (s x : Operand)
    (ho : o.op = .call { callee := .builtin .append, args := #[s, x], argTypes := #[22, 22] })
    (base : Nat) (v : Value) (zs : List Int) (hs : a.eval s = v) (hown : w.ownsRow base 5 1 v zs.length (bl zs))
    (xa : Option Addr) (m c : Nat) (z : Nat → Int) (hx : a.eval x = .slice xa m c) (hb : BytesAt w xa m z) (h63 : zs.length + m ≤ 100000) (hbase : base ≤ w.heap.size)
    (h : ∀ v' w', w'.ownsRow base 5 1 v' (zs ++ zL z m).length (bl (zs ++ zL z m)) → w.grownBy w' v.ownBlock → K (a.put o.dst v') w') :
    if Region.wanted o (yielded ops a.tmps) = true then Oper.wp Try.prog o a w K Q else E := by
  have hw : Region.wanted o (yielded ops a.tmps) = true := by simp [Region.wanted, hgd]
  rw [if_pos hw]
  exact wp_appB w s x ho base v zs hs hown xa m c z hx hb h63 hbase h
/-- Pieces joined, the first k of them. -/
def jn (N : Nat → Nat) (Z : Nat → Nat → Int) : Nat → List Int
  | 0 => []
  | k + 1 => jn N Z k ++ zL (Z k) (N k)
theorem jn_len (N : Nat → Nat) (Z : Nat → Nat → Int) : ∀ k, (jn N Z k).length = sumL N k
  | 0 => rfl
  | k + 1 => by simp only [jn, List.length_append, jn_len N Z k, zL_len, sumL]
theorem sumL_mono (N : Nat → Nat) {k m : Nat} (h : k ≤ m) : sumL N k ≤ sumL N m := by
  induction m with
  | zero => have : k = 0 := by omega
            subst this; exact Nat.le_refl _
  | succ m ih =>
    by_cases e : k = m + 1
    · subst e; exact Nat.le_refl _
    · have := ih (by omega); simp only [sumL]; omega
theorem BytesAt.grown {w w' : World} {a : Option Addr} {n base : Nat} {z : Nat → Int} {v : Value} {k : Nat} {xs : List Value} (h : BytesAt w a n z) (hg : w.grownBy w' v.ownBlock) (ho : w.ownsRow base 5 1 v k xs) (hl : ∀ b off, a = some ⟨b, off, none⟩ → n = 0 ∨ b < base) : BytesAt w' a n z := by
  rcases h with h | ⟨b, off, rfl, hbl, hc⟩
  · exact .inl h
  · rcases hl b off rfl with h | h
    · exact .inl h
    · have hb := hg.block b hbl (fun e => by have := (ho.lt b e.symm).1; omega)
      exact .inr ⟨b, off, rfl, by have := hg.size; omega, fun i hi => (World.cell?_of_block (w := w) (a := ⟨b, _, none⟩) hb).trans (hc i hi)⟩
set_option maxHeartbeats 2000000 in
theorem joined_any (m : Nat) (A : Nat → Option Addr) (N C : Nat → Nat) (Z : Nat → Nat → Int) (pb po pc : Nat) (w : World) (hs : sumL N m ≤ 90000) (hpb : pb < w.heap.size)
    (hp : ∀ i, i < m → w.cell? ⟨pb, po + i, none⟩ = some (.slice (A i) (N i) (C i)) ∧ BytesAt w (A i) (N i) (Z i)) (hm : m ≤ 3) :
    Calls Try.prog 23 #[.slice (some ⟨pb, po, none⟩) m pc] w fun e w' => ∃ v, e = .returned v ∧ Below w.heap.size w w' ∧ w'.ownsRow w.heap.size 5 1 v (jn N Z m).length (bl (jn N Z m)) := by
  have HP : Hid (∀ i, i < m → w.cell? ⟨pb, po + i, none⟩ = some (.slice (A i) (N i) (C i)) ∧ BytesAt w (A i) (N i) (Z i)) := hp
  clear hp
  go_enter Try.func23, Try.ntmps23
  go_wp2_with fail
  go_loopw [3, 5, 8] (fun v _ i wr => ∃ k : Nat, k ≤ m ∧ i = .int .i64 k ∧ Hid (Below w.heap.size w wr) ∧ Hid (wr.ownsRow w.heap.size 5 1 v (jn N Z k).length (bl (jn N Z k)))) (fun _ _ i _ => m - (intOf i).toNat)
  case atStart => exact ⟨0, by omega, rfl, Below.refl _ _, World.ownsRow_nil _ _ _ _⟩
  case round =>
    obtain ⟨k, hk, rfl, HB, HO⟩ := hrel
    by_cases hlt : k < m
    · have hlt' : (k : Int) < (m : Int) := by omega
      have hk1 : (0 : Int) ≤ (k : Int) := by omega
      have hc := cell_below (HP.out k hlt).1 HB.out
      have HBA : Hid (BytesAt wr (A k) (N k) (Z k)) := (HP.out k hlt).2.below HB.out
      have HLE : Hid ((jn N Z k).length + N k ≤ 100000) := by
        have h1 := jn_len N Z k
        have h2 := sumL_mono N (k := k + 1) (m := m) (by omega)
        simp only [sumL] at h2
        show (jn N Z k).length + N k ≤ 100000
        omega
      go_wp2_with (at_builtin; refine wpList_appB _ rfl (.tmp 12) (.tmp 13) rfl w.heap.size _ (jn N Z k) rfl HO.out (A k) (N k) (C k) (Z k) rfl HBA.out HLE.out HB.out.size ?_)
      intro v1 w1 ho1 hg1
      have HO1 : Hid (w1.ownsRow w.heap.size 5 1 v1 (jn N Z (k + 1)).length (bl (jn N Z (k + 1)))) := by
        show w1.ownsRow w.heap.size 5 1 v1 (jn N Z k ++ zL (Z k) (N k)).length (bl (jn N Z k ++ zL (Z k) (N k)))
        rw [List.length_append]
        exact ho1
      have HB1 : Hid (Below w.heap.size w w1) := HB.out.grown hg1 HB.out.size (fun q hq => (HO.out.lt q hq).1)
      clear ho1 hg1
      go_wp2_with fail
      go_roundw
      case rel => exact ⟨k + 1, hlt, by go_num, HB1, HO1⟩
      case measure => simp [intOf]; omega
    · have hkn : k = m := by omega
      subst hkn
      go_wp2_with fail
      go_ret
      exact ⟨_, rfl, HB.out, HO.out⟩
/-- A row that grows, over a box, and fresh rows of bytes that wait to be appended. -/
structure L3 (w wB W : World) (v : Value) (xs : List Int) (n : Nat) (P : List (Nat × List Int)) : Prop where
  below : Below (w.heap.size + 1) wB W
  hsz : w.heap.size + 1 ≤ W.heap.size
  own : W.ownsRow (w.heap.size + 1) 5 1 v n (bl xs)
  pend : ∀ p ∈ P, p.1 < W.heap.size ∧ v.ownBlock ≠ some p.1 ∧ ∀ j u, (bl p.2)[j]? = some u → W.cell? ((⟨p.1, 0, none⟩ : Addr).add j) = some u
theorem L3.drew {w wB W : World} {v : Value} {xs : List Int} {n : Nat} {P : List (Nat × List Int)} (h : L3 w wB W v xs n P) : L3 w wB W.drew v xs n P := ⟨h.below.drew, h.hsz, h.own, h.pend⟩
theorem L3.call {w wB W W' : World} {v : Value} {xs ys : List Int} {n g cq : Nat} {P : List (Nat × List Int)} (h : L3 w wB W v xs n P) (hb : Below W.heap.size W W') (hq : W'.ownsRow W.heap.size 5 1 (.slice (some ⟨g, 0, none⟩) ys.length cq) ys.length (bl ys)) (hg : W.heap.size ≤ g ∧ g < W'.heap.size) : L3 w wB W' v xs n ((g, ys) :: P) := by
  refine ⟨h.below.trans (hb.mono h.hsz), Nat.le_trans h.hsz hb.size, rowB_below h.own hb, fun p hp => ?_⟩
  rcases List.mem_cons.1 hp with rfl | hp
  · exact ⟨hg.2, fun e => by have := (h.own.lt _ e).2; omega, newsB hq⟩
  · obtain ⟨h1, h2, h3⟩ := h.pend p hp
    refine ⟨Nat.lt_of_lt_of_le h1 hb.size, h2, fun j u hj => ?_⟩
    have h4 := h3 j u hj
    rw [WideShapes.add_plain] at h4 ⊢
    exact cell_below h4 hb
theorem L3.app {w wB W W' : World} {v : Value} {xs ys : List Int} {n g' cap' m : Nat} {P : List (Nat × List Int)} (h : L3 w wB W v xs n P) (ho : W'.ownsRow (w.heap.size + 1) 5 1 (.slice (some ⟨g', 0, none⟩) (n + m) cap') (n + m) (bl xs ++ bl ys)) (hg : W.grownBy W' v.ownBlock) (hat : v.ownBlock = some g' ∨ g' = W.heap.size) :
    L3 w wB W' (.slice (some ⟨g', 0, none⟩) (n + m) cap') (xs ++ ys) (n + m) P := by
  refine ⟨h.below.grown hg h.hsz fun q hq => (h.own.lt q hq).1, Nat.le_trans h.hsz hg.size, by rw [bl_app]; exact ho, fun p hp => ?_⟩
  obtain ⟨h1, h2, h3⟩ := h.pend p hp
  have hblk := hg.block p.1 h1 (fun e => h2 e.symm)
  refine ⟨Nat.lt_of_lt_of_le h1 hg.size, ?_, fun j u hj => ?_⟩
  · rcases hat with e | e
    · intro e2
      exact h2 (e.trans e2)
    · intro e2
      simp only [Value.ownBlock, Option.some.injEq] at e2
      omega
  · have h4 := h3 j u hj
    rw [WideShapes.add_plain] at h4 ⊢
    exact (World.cell?_of_block (w := W) (a := ⟨p.1, _, none⟩) hblk).trans h4
theorem L3.stepApp {ops : Array Oper} {o : Oper} {a : Act} {K : Act → World → Prop} {Q : Exit → Act → World → Prop} {E : Prop} {w wB W : World} {v : Value} {xs : List Int} {n : Nat} {P : List (Nat × List Int)} (h : L3 w wB W v xs n P) (hgd : o.guard = none) (s x : Operand)
    (ho : o.op = .call { callee := .builtin .append, args := #[s, x], argTypes := #[22, 22] }) (hs : a.eval s = v) (g c : Nat) (ys : List Int) (hx : a.eval x = .slice (some ⟨g, 0, none⟩) 2 c) (hl : ys.length = 2) (hp : (g, ys) ∈ P) (hn : n ≤ 20)
    (hk : ∀ g' cap' W', L3 w wB W' (.slice (some ⟨g', 0, none⟩) (n + 2) cap') (xs ++ ys) (n + 2) P → K (a.put o.dst (.slice (some ⟨g', 0, none⟩) (n + 2) cap')) W') :
    if Region.wanted o (yielded ops a.tmps) = true then Oper.wp Try.prog o a W K Q else E := by
  obtain ⟨i0, hi, hz0, hz1, hz2⟩ := info_parts info5
  refine step_append_lies (P := Try.prog) W hgd s x 22 ho (w.heap.size + 1) 5 i0 (.int .u8 0) 1 1 Try.underlying22 hi hz0 hz1 hz2 rfl (by decide) v n (bl xs) hs h.own ⟨g, 0, none⟩ 2 c (bl ys) hx (by rw [bl_len, hl]) (h.pend _ hp).2.2 (bl_one _) (by decide) (by unfold maxLen; omega) (by omega) h.hsz _ rfl ?_
  intro g' cap' W' h1 h2 h3 h4
  exact hk g' cap' W' (h.app h1 h2 h3)
theorem L3.news {w wB W : World} {v : Value} {xs ys : List Int} {n g : Nat} {P : List (Nat × List Int)} (h : L3 w wB W v xs n P) (hp : (g, ys) ∈ P) : ∀ j u, (bl ys)[j]? = some u → W.cell? ((⟨g, 0, none⟩ : Addr).add j) = some u := (h.pend _ hp).2.2
theorem L3.cell {w wB W : World} {v x : Value} {xs : List Int} {n i : Nat} {P : List (Nat × List Int)} (h : L3 w wB W v xs n P) (hx : wB.cell? ⟨w.heap.size, i, none⟩ = some x) : W.cell? ⟨w.heap.size, i, none⟩ = some x :=
  (h.below.cell (p := ⟨w.heap.size, i, none⟩) (by show w.heap.size < w.heap.size + 1; omega)).trans hx
theorem two_u8 (x y : Int) : ∀ u ∈ [Value.int .u8 x, Value.int .u8 y], u.oneCell' = true := by intro u hu; simp at hu; rcases hu with rfl | rfl <;> rfl
theorem cell_two_newB (w : World) (a b : Value) (t : TypeId) : ∀ j u, [a, b][j]? = some u → (w.alloc (.cells #[a, b] t)).cell? ((⟨w.heap.size, 0, none⟩ : Addr).add j) = some u := by
  intro j u hj
  rw [WideShapes.add_plain]
  rcases j with _ | _ | j
  · simp at hj; subst hj; simp
  · simp at hj; subst hj; simp
  · simp at hj
theorem nb_bl (x : Int) (s : Nat) : (bl (nb x s)).length = s := by rw [bl_len, nb_len]
theorem le_mx {n : Nat} (h : n ≤ 20) : n + 2 ≤ maxLen := by unfold maxLen; omega
theorem le_bx {n : Nat} (h : n ≤ 20) : (n + 2) * 1 ≤ 140737488355328 := by omega
end Go.Proofs.Ytapggckfacmklaa
