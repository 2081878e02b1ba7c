/- What the elements of a row hold; the purged engine. -/
import Derived.Test.YtnhlcadipkmhhaaGreatQMpa
import Derived.Test.YtnhlcadipkmhhaaGreatQVi
import Derived.Test.YtnhlcadipkmhhaaGreatQEva
import Derived.Test.YtnhlcadipkmhhaaGreatQFla
namespace Go.Proofs.YtnhlcadipkmhhaaGreat
open Go.ChangeShapes Go.WideShapes Go.ChangeAt Go.RowKit Go.Deep Go.Joins
set_option linter.unusedVariables false
set_option maxRecDepth 20000

/-- What it holds lies in blocks of its own, from B on below M. -/
def CtRw (w : World) (B M : Nat) (x : HRw) : Prop := (x.h = 0 ∨ B ≤ x.l ∧ x.h ≤ M) ∧ x.t.n ≤ x.c ∧ Own4 w x.l x.h x.A x.t.n x.t.U
def ApRw (xs : List HRw) : Prop := xs.Pairwise (fun x y => x.h ≤ y.l ∨ y.h ≤ x.l)
theorem CtRw.writes {w w' : World} {B M lo hi : Nat} {x : HRw} (h : CtRw w B M x) (hw : Writes lo hi w w') (hd : hi ≤ B ∨ M ≤ lo) : CtRw w' B M x := by
  obtain ⟨h1, h2, h3⟩ := h
  exact ⟨h1, h2, h3.writes hw (by omega)⟩
theorem CtRw.below {w w' : World} {B M : Nat} {x : HRw} (h : CtRw w B M x) (hb : Below w.heap.size w w') : CtRw w' B M x := by
  obtain ⟨h1, h2, h3⟩ := h
  exact ⟨h1, h2, h3.below hb⟩
theorem CtRw.mono {w : World} {B M B' M' : Nat} {x : HRw} (h : CtRw w B M x) (h1 : B' ≤ B) (h2 : M ≤ M') : CtRw w B' M' x := by
  obtain ⟨k1, k2, k3⟩ := h
  exact ⟨by omega, k2, k3⟩
theorem hb_rangeRw (T : Nat → Rw) (A : Nat → Option Addr) (c l h : Nat → Nat) : ∀ k, hbRw ((List.range k).map (fun i => (⟨T i, A i, c i, l i, h i⟩ : HRw))) = rbRw T A c k
  | 0 => rfl
  | k + 1 => by
    rw [List.range_succ, List.map_append, hbRw_app, hb_rangeRw T A c l h k]
    simp [hbRw, rbRw]
/-- A list that has grown, by its elements. -/
theorem GrRw.list {base top k : Nat} {w : World} {v : Value} {T : Nat → Rw} (h : GrRw base top w v k T) : ∃ xs : List HRw, xs.length = k ∧ xs.map HRw.t = (List.range k).map T ∧ w.ownsRow base 105 2 v k (hbRw xs) ∧ (∀ q, v.ownBlock = some q → q < top) ∧ ApRw xs ∧ ∀ x ∈ xs, (∀ q, v.ownBlock = some q → q < x.l ∨ x.h ≤ q) ∧ CtRw w base top x := by
  obtain ⟨h0, A, c, l, h, ho, hv, hj, hc⟩ := h
  refine ⟨(List.range k).map (fun i => ⟨T i, A i, c i, l i, h i⟩), by simp, by simp, by rw [hb_rangeRw]; exact ho, hv, ?_, fun x hx => ?_⟩
  · refine List.pairwise_iff_getElem.2 fun i j hi hj' hlt => ?_
    simp only [List.length_map, List.length_range] at hi hj'
    simp only [List.getElem_map, List.getElem_range]
    exact hj i j hi hj' (by omega)
  · obtain ⟨i, hi, rfl⟩ := List.mem_map.1 hx
    obtain ⟨m1, m2, m3, m4⟩ := hc i (List.mem_range.1 hi)
    exact ⟨m1, m2, m3, m4⟩
/-- A row and what its elements hold: all in blocks of its own. -/
theorem OwnRwP.of {w : World} {base B M n : Nat} {v : Value} {xs : List HRw} (hn : xs.length = n) (h : w.ownsRow base 105 2 v n (hbRw xs)) (ha : ApRw xs) (hc : ∀ x ∈ xs, CtRw w B M x) (hv : ∀ q, v.ownBlock = some q → M ≤ q) :
    ∃ a cap, v = .slice a n cap ∧ n ≤ cap ∧ OwnRwP w (fun x => (B ≤ x ∧ x < M) ∨ v.ownBlock = some x) a n (fun i => (xs.map HRw.t).getD i zRw) := by
  obtain ⟨a, cap, rfl, hcap, hat⟩ := HAtRw.of_row hn h
  refine ⟨a, cap, rfl, hcap, ?_⟩
  rcases hat with rfl | ⟨b, off, rfl, hl, hcc⟩
  · exact .inl (by simpa using hn.symm)
  have hlt : ∀ i, i < n → ∃ x, xs[i]? = some x := fun i hi => ⟨_, List.getElem?_eq_getElem (by omega)⟩
  let z : HRw := ⟨zRw, none, 0, 0, 0⟩
  refine .inr ⟨b, off, rfl, .inr rfl, hl, fun i => ?_, fun i => (xs.getD i z).l, fun i => (xs.getD i z).h, fun i j hi hj hne => ?_, fun i hi => ?_⟩
  · rcases h.2 with ⟨e, _⟩ | ⟨g, _, _, e, _⟩
    · cases e
    · injection e with e
      injection e with e
      injection e with e1 e2
      subst e1
      subst e2
      exact h.frozenAt _
  · have gi := List.getElem?_eq_getElem (l := xs) (i := i) (by omega)
    have gj := List.getElem?_eq_getElem (l := xs) (i := j) (by omega)
    simp only [List.getD_eq_getElem?_getD, gi, gj, Option.getD_some]
    rcases Nat.lt_or_ge i j with c | c
    · exact List.pairwise_iff_getElem.1 ha i j (by omega) (by omega) c
    · exact (List.pairwise_iff_getElem.1 ha j i (by omega) (by omega) (by omega)).symm
  · obtain ⟨x, hx⟩ := hlt i hi
    have hmem := List.mem_of_getElem? hx
    obtain ⟨k1, k2, k3⟩ := hc x hmem
    have hq := hv b rfl
    have e1 : xs.getD i z = x := by simp [List.getD_eq_getElem?_getD, hx]
    have e2 : (xs.map HRw.t).getD i zRw = x.t := by simp [List.getD_eq_getElem?_getD, hx]
    simp only [e1, e2]
    exact ⟨by omega, fun y h1 h2 => .inl (by omega), x.A, x.c, hcc i x hx, k2, k3⟩
/-- What it holds lies in blocks of its own, from B on below M. -/
def CtTx (w : World) (B M : Nat) (x : HTx) : Prop := (x.h = 0 ∨ B ≤ x.l ∧ x.h ≤ M) ∧ x.t.n ≤ x.c ∧ OwnU w x.l x.h x.A x.t.n x.t.U
def ApTx (xs : List HTx) : Prop := xs.Pairwise (fun x y => x.h ≤ y.l ∨ y.h ≤ x.l)
theorem CtTx.writes {w w' : World} {B M lo hi : Nat} {x : HTx} (h : CtTx w B M x) (hw : Writes lo hi w w') (hd : hi ≤ B ∨ M ≤ lo) : CtTx w' B M x := by
  obtain ⟨h1, h2, h3⟩ := h
  exact ⟨h1, h2, h3.writes hw (by omega)⟩
theorem CtTx.below {w w' : World} {B M : Nat} {x : HTx} (h : CtTx w B M x) (hb : Below w.heap.size w w') : CtTx w' B M x := by
  obtain ⟨h1, h2, h3⟩ := h
  exact ⟨h1, h2, h3.below hb⟩
theorem CtTx.mono {w : World} {B M B' M' : Nat} {x : HTx} (h : CtTx w B M x) (h1 : B' ≤ B) (h2 : M ≤ M') : CtTx w B' M' x := by
  obtain ⟨k1, k2, k3⟩ := h
  exact ⟨by omega, k2, k3⟩
theorem hb_rangeTx (T : Nat → Tx) (A : Nat → Option Addr) (c l h : Nat → Nat) : ∀ k, hbTx ((List.range k).map (fun i => (⟨T i, A i, c i, l i, h i⟩ : HTx))) = rbTx T A c k
  | 0 => rfl
  | k + 1 => by
    rw [List.range_succ, List.map_append, hbTx_app, hb_rangeTx T A c l h k]
    simp [hbTx, rbTx]
/-- A list that has grown, by its elements. -/
theorem GrTx.list {base top k : Nat} {w : World} {v : Value} {T : Nat → Tx} (h : GrTx base top w v k T) : ∃ xs : List HTx, xs.length = k ∧ xs.map HTx.t = (List.range k).map T ∧ w.ownsRow base 64 5 v k (hbTx xs) ∧ (∀ q, v.ownBlock = some q → q < top) ∧ ApTx xs ∧ ∀ x ∈ xs, (∀ q, v.ownBlock = some q → q < x.l ∨ x.h ≤ q) ∧ CtTx w base top x := by
  obtain ⟨h0, A, c, l, h, ho, hv, hj, hc⟩ := h
  refine ⟨(List.range k).map (fun i => ⟨T i, A i, c i, l i, h i⟩), by simp, by simp, by rw [hb_rangeTx]; exact ho, hv, ?_, fun x hx => ?_⟩
  · refine List.pairwise_iff_getElem.2 fun i j hi hj' hlt => ?_
    simp only [List.length_map, List.length_range] at hi hj'
    simp only [List.getElem_map, List.getElem_range]
    exact hj i j hi hj' (by omega)
  · obtain ⟨i, hi, rfl⟩ := List.mem_map.1 hx
    obtain ⟨m1, m2, m3, m4⟩ := hc i (List.mem_range.1 hi)
    exact ⟨m1, m2, m3, m4⟩
/-- A row and what its elements hold: all in blocks of its own. -/
theorem OwnTxP.of {w : World} {base B M n : Nat} {v : Value} {xs : List HTx} (hn : xs.length = n) (h : w.ownsRow base 64 5 v n (hbTx xs)) (ha : ApTx xs) (hc : ∀ x ∈ xs, CtTx w B M x) (hv : ∀ q, v.ownBlock = some q → M ≤ q) :
    ∃ a cap, v = .slice a n cap ∧ n ≤ cap ∧ OwnTxP w (fun x => (B ≤ x ∧ x < M) ∨ v.ownBlock = some x) a n (fun i => (xs.map HTx.t).getD i zTx) := by
  obtain ⟨a, cap, rfl, hcap, hat⟩ := HAtTx.of_row hn h
  refine ⟨a, cap, rfl, hcap, ?_⟩
  rcases hat with rfl | ⟨b, off, rfl, hl, hcc⟩
  · exact .inl (by simpa using hn.symm)
  have hlt : ∀ i, i < n → ∃ x, xs[i]? = some x := fun i hi => ⟨_, List.getElem?_eq_getElem (by omega)⟩
  let z : HTx := ⟨zTx, none, 0, 0, 0⟩
  refine .inr ⟨b, off, rfl, .inr rfl, hl, fun i => ?_, fun i => (xs.getD i z).l, fun i => (xs.getD i z).h, fun i j hi hj hne => ?_, fun i hi => ?_⟩
  · rcases h.2 with ⟨e, _⟩ | ⟨g, _, _, e, _⟩
    · cases e
    · injection e with e
      injection e with e
      injection e with e1 e2
      subst e1
      subst e2
      exact h.frozenAt _
  · have gi := List.getElem?_eq_getElem (l := xs) (i := i) (by omega)
    have gj := List.getElem?_eq_getElem (l := xs) (i := j) (by omega)
    simp only [List.getD_eq_getElem?_getD, gi, gj, Option.getD_some]
    rcases Nat.lt_or_ge i j with c | c
    · exact List.pairwise_iff_getElem.1 ha i j (by omega) (by omega) c
    · exact (List.pairwise_iff_getElem.1 ha j i (by omega) (by omega) (by omega)).symm
  · obtain ⟨x, hx⟩ := hlt i hi
    have hmem := List.mem_of_getElem? hx
    obtain ⟨k1, k2, k3⟩ := hc x hmem
    have hq := hv b rfl
    have e1 : xs.getD i z = x := by simp [List.getD_eq_getElem?_getD, hx]
    have e2 : (xs.map HTx.t).getD i zTx = x.t := by simp [List.getD_eq_getElem?_getD, hx]
    simp only [e1, e2]
    exact ⟨by omega, fun y h1 h2 => .inl (by omega), x.A, x.c, hcc i x hx, k2, k3⟩
/-- A row purged at a floor; the purged engine. -/
def puR (f : Int) (r : Rw) : Rw := ⟨r.key, puN r.n r.U f, r.U⟩
def pgT (E : En) : List Tx := ((List.range E.p).map E.T).filter (fun t => t.st == 1)
def pgR (E : En) : List Rw := ((List.range E.q).map (fun i => puR (flF E.ck E.T E.p) (E.R i))).filter (fun r => decide (0 < r.n))
def pgE (E : En) : En := ⟨E.nx, E.ck, (pgT E).length, fun i => (pgT E).getD i zTx, (pgR E).length, fun i => (pgR E).getD i zRw⟩
def PgA (E : En) (w : World) (e : Ending) (w' : World) : Prop := ∃ a cap a' cap', e = .returned (.agg #[.int .i64 E.nx, .int .i64 E.ck, .slice a (pgE E).p cap, .slice a' (pgE E).q cap']) ∧ Below w.heap.size w w' ∧ OwnE2 w' w.heap.size w'.heap.size a a' (pgE E)
theorem pgT_of {E : En} {xs : List HTx} (h : xs.map HTx.t = (List.range E.p).map E.T) : (xs.filter needTx).map HTx.t = pgT E := by
  unfold pgT
  rw [← h, List.filter_map]
  rfl
theorem pgR_of {E : En} {xs : List HRw} (h : xs.map HRw.t = (List.range E.q).map (fun i => puR (flF E.ck E.T E.p) (E.R i))) : (xs.filter needRw).map HRw.t = pgR E := by
  unfold pgR
  rw [← h, List.filter_map]
  rfl
theorem filter_len {α β : Type} {f : α → β} {xs : List α} {p : α → Bool} {ys : List β} (h : (xs.filter p).map f = ys) : (xs.filter p).length = ys.length := by rw [← h, List.length_map]
/-- Both lists in sets of blocks of their own. -/
theorem PgA.of {E : En} {w w' : World} {v v' : Value} {B M B' M' base base' : Nat} {ts : List HTx} {rs : List HRw} (hb : Below w.heap.size w w') (ht : ts.map HTx.t = pgT E) (hr : rs.map HRw.t = pgR E)
    (hT : w'.ownsRow base 64 5 v (pgT E).length (hbTx ts)) (hR : w'.ownsRow base' 105 2 v' (pgR E).length (hbRw rs)) (aT : ApTx ts) (aR : ApRw rs) (cT : ∀ x ∈ ts, CtTx w' B M x) (cR : ∀ x ∈ rs, CtRw w' B' M' x)
    (h1 : w.heap.size ≤ B) (h2 : M ≤ B') (h3 : B ≤ M) (h3' : B' ≤ M') (h4 : M' ≤ base') (h5 : M' ≤ base) (hne : ∀ q, v.ownBlock = some q → v'.ownBlock ≠ some q) (h6 : M' ≤ w'.heap.size) :
    PgA E w (.returned (.agg #[.int .i64 E.nx, .int .i64 E.ck, v, v'])) w' := by
  have lt : ts.length = (pgT E).length := by rw [← ht, List.length_map]
  have lr : rs.length = (pgR E).length := by rw [← hr, List.length_map]
  obtain ⟨a, cap, rfl, hc, hP⟩ := OwnTxP.of (B := B) (M := M) lt hT aT cT (fun q hq => by have := (hT.lt q hq).1; omega)
  obtain ⟨a', cap', rfl, hc', hQ⟩ := OwnRwP.of (B := B') (M := M') lr hR aR cR (fun q hq => by have := (hR.lt q hq).1; omega)
  refine ⟨a, cap, a', cap', rfl, hb, Nat.le_refl _, _, _, fun x hx => ?_, fun x hx => ?_, fun x hx hy => ?_, hP.congr fun i hi => ?_, hQ.congr fun i hi => ?_⟩
  · rcases hx with hx | hx
    · omega
    · have := hT.lt x hx; omega
  · rcases hx with hx | hx
    · omega
    · have := hR.lt x hx; omega
  · rcases hx with hx | hx <;> rcases hy with hy | hy
    · omega
    · have := (hR.lt x hy).1; omega
    · have := (hT.lt x hx).1; omega
    · exact hne x hx hy
  · rw [ht]; rfl
  · rw [hr]; rfl
end Go.Proofs.YtnhlcadipkmhhaaGreat
