/- Rows put anew: by the list of their headers. -/
import Derived.Test.YtjdodbiphijjgaaGreatQRsb
import Derived.Test.YtjdodbiphijjgaaGreatQPgb
namespace Go.Proofs.YtjdodbiphijjgaaGreat
open Go.RowKit Go.Deep Go.Shelf
set_option linter.unusedVariables false
set_option linter.unusedSimpArgs false
set_option maxRecDepth 20000

theorem OwnRwP.ofList {w : World} {P : Nat → Prop} {g : Nat} {zs : List HRw} (hP : P g) (hl : g < w.heap.size) (hf : ∀ i, w.frozen? ⟨g, i, none⟩ = false) (ap : ApRw zs) (hc : ∀ i x, zs[i]? = some x → CRw w g (i * 2) x.t x.A x.c)
    (ct : ∀ x ∈ zs, (g < x.l ∨ x.h ≤ g) ∧ x.t.n ≤ x.c ∧ Own4 w x.l x.h x.A x.t.n x.t.U ∧ ∀ y, x.l ≤ y → y < x.h → P y) : OwnRwP w P (some ⟨g, 0, none⟩) zs.length (fun i => (zs.map HRw.t).getD i zRw) := by
  refine .inr ⟨g, 0, rfl, hP, hl, hf, fun i => (zs.getD i ⟨zRw, none, 0, 0, 0⟩).l, fun i => (zs.getD i ⟨zRw, none, 0, 0, 0⟩).h, fun i j hi hj hne => ?_, fun i hi => ?_⟩
  · simp only [List.getD_eq_getElem?_getD, List.getElem?_eq_getElem hi, List.getElem?_eq_getElem hj, Option.getD_some]
    rcases Nat.lt_trichotomy i j with c | c | c
    · exact List.pairwise_iff_getElem.1 ap i j hi hj c
    · exact absurd c hne
    · exact (List.pairwise_iff_getElem.1 ap j i hj hi c).symm
  · obtain ⟨x, gi⟩ : ∃ x, zs[i]? = some x := ⟨_, List.getElem?_eq_getElem hi⟩
    have e2 : (zs.map HRw.t).getD i zRw = x.t := by simp [List.getD_eq_getElem?_getD, gi]
    have e3 : zs.getD i ⟨zRw, none, 0, 0, 0⟩ = x := by simp [List.getD_eq_getElem?_getD, gi]
    obtain ⟨m1, m2, m3, m4⟩ := ct x (List.mem_of_getElem? gi)
    simp only [e2, e3, Nat.zero_add]
    exact ⟨m1, m4, x.A, x.c, hc i x gi, m2, m3⟩
/-- The i-th row put anew (f: it was there), or put in ahead of the i-th. -/
def skL (f : Bool) (i : Nat) (y : Rw) (rs : List Rw) : List Rw := rs.take i ++ y :: rs.drop (if f then i + 1 else i)
def skH (f : Bool) (i : Nat) (y : HRw) (xs : List HRw) : List HRw := xs.take i ++ y :: xs.drop (if f then i + 1 else i)
theorem skH_t (f : Bool) (i : Nat) (y : HRw) (xs : List HRw) : (skH f i y xs).map HRw.t = skL f i y.t (xs.map HRw.t) := by
  simp [skH, skL, List.map_take, List.map_drop]
theorem skL_len (f : Bool) (i : Nat) (y : Rw) (rs : List Rw) (hi : if f then i < rs.length else i ≤ rs.length) : (skL f i y rs).length = if f then rs.length else rs.length + 1 := by
  cases f <;> simp [skL] at hi ⊢ <;> omega
theorem skH_ap {f : Bool} {i : Nat} {y : HRw} {xs : List HRw} (h : ApRw xs) (hy : ∀ x ∈ xs, x.h ≤ y.l ∨ y.h ≤ x.l) : ApRw (skH f i y xs) := by
  unfold ApRw skH
  rw [List.pairwise_append, List.pairwise_cons]
  have hd : ∀ k, (xs.drop k).Pairwise (fun x y => x.h ≤ y.l ∨ y.h ≤ x.l) := fun k => h.sublist (List.drop_sublist _ _)
  refine ⟨h.sublist (List.take_sublist _ _), ⟨fun x hx => (hy x (List.mem_of_mem_drop hx)).symm, hd _⟩, fun a ha b hb => ?_⟩
  rcases List.mem_cons.1 hb with rfl | hb
  · exact hy a (List.mem_of_mem_take ha)
  · have hk : i ≤ (if f then i + 1 else i) := by split <;> omega
    obtain ⟨p, hp, rfl⟩ := List.getElem_of_mem ha
    obtain ⟨r, hr, rfl⟩ := List.getElem_of_mem hb
    simp only [List.length_take] at hp
    simp only [List.length_drop] at hr
    rw [List.getElem_take, List.getElem_drop]
    exact List.pairwise_iff_getElem.1 h p _ (by omega) (by omega) (by omega)
theorem hbRw_take : ∀ (xs : List HRw) (i : Nat), hbRw (xs.take i) = (hbRw xs).take (i * 2)
  | [], i => by simp [hbRw]
  | x :: xs, 0 => by simp [hbRw]
  | x :: xs, i + 1 => by
    rw [List.take_succ_cons, show (i + 1) * 2 = i * 2 + 1 + 1 by omega]
    simp only [hbRw, rcRw, List.cons_append, List.nil_append, List.take_succ_cons, hbRw_take xs i]
theorem hbRw_drop : ∀ (xs : List HRw) (i : Nat), hbRw (xs.drop i) = (hbRw xs).drop (i * 2)
  | [], i => by simp [hbRw]
  | x :: xs, 0 => by simp [hbRw]
  | x :: xs, i + 1 => by
    rw [List.drop_succ_cons, show (i + 1) * 2 = i * 2 + 1 + 1 by omega]
    simp only [hbRw, rcRw, List.cons_append, List.nil_append, List.drop_succ_cons, hbRw_drop xs i]
/-- What insertion leaves, as headers. -/
theorem hbRw_ins (xs : List HRw) (y : HRw) (i : Nat) : hbRw (skH false i y xs) = insL (hbRw xs) (rcRw y.t y.A y.c) i := by
  unfold skH insL
  rw [hbRw_app, hbRw_take]
  simp only [hbRw, Bool.false_eq_true, if_false, hbRw_drop, List.append_assoc]
theorem hbRw_oneS : ∀ xs, ∀ u ∈ hbRw xs, u.oneCell' = true
  | [], u, hu => by simp [hbRw] at hu
  | x :: xs, u, hu => by
    simp only [hbRw, List.mem_append] at hu
    rcases hu with hu | hu
    · exact rcRw_one _ _ _ u hu
    · exact hbRw_oneS xs u hu
theorem skH_get {i : Nat} {y : HRw} {xs : List HRw} (hi : i < xs.length) (k : Nat) : (skH true i y xs)[k]? = if k = i then some y else xs[k]? := by
  have e : (xs.take i).length = i := by rw [List.length_take]; omega
  unfold skH
  simp only [if_true]
  rcases Nat.lt_trichotomy k i with h | h | h
  · rw [List.getElem?_append_left (by omega), List.getElem?_take, if_pos h, if_neg (by omega)]
  · subst h
    rw [List.getElem?_append_right (by omega), e, Nat.sub_self, if_pos rfl]
    rfl
  · rw [List.getElem?_append_right (by omega), e, if_neg (by omega), show k - i = (k - i - 1) + 1 by omega, List.getElem?_cons_succ, List.getElem?_drop]
    congr 1
    omega
theorem skL_skL {i : Nat} {y z : Rw} {rs : List Rw} (hi : i ≤ rs.length) : skL true i y (skL false i z rs) = skL false i y rs := by
  have e : (rs.take i).length = i := by rw [List.length_take]; omega
  unfold skL
  simp only [if_true, Bool.false_eq_true, if_false]
  rw [List.take_append_of_le_length (by omega), List.take_of_length_le (by omega), show i + 1 = (rs.take i).length + 1 by omega, List.drop_append]
  simp
theorem own4_keepX {w u : World} {lo hi n : Nat} {A : Option Addr} {U : Nat → Vr} (h : Own4 w lo hi A n U) (hs : w.heap.size ≤ u.heap.size) (hk : ∀ x, lo ≤ x → x < hi → u.heap[x]? = w.heap[x]?) : Own4 u lo hi A n U := by
  obtain ⟨h0, h1 | ⟨b, off, e, h2, h3, h4⟩⟩ := h
  · exact ⟨Nat.le_trans h0 hs, .inl h1⟩
  · have hb := hk b h2 h3
    exact ⟨Nat.le_trans h0 hs, .inr ⟨b, off, e, h2, h3, fun i hi => (h4.1 i hi).block hb, fun i => (World.frozen?_of_block (w := w) (a := ⟨b, i, none⟩) hb).trans (h4.2 i)⟩⟩
theorem skH_mem {f : Bool} {i : Nat} {y x : HRw} {xs : List HRw} (h : x ∈ skH f i y xs) : x = y ∨ x ∈ xs := by
  unfold skH at h
  rcases List.mem_append.1 h with h | h
  · exact .inr (List.mem_of_mem_take h)
  · rcases List.mem_cons.1 h with h | h
    · exact .inl h
    · exact .inr (List.mem_of_mem_drop h)
theorem skH_len0 {i : Nat} {y : HRw} {xs : List HRw} (h : i ≤ xs.length) : (skH false i y xs).length = xs.length + 1 := by
  simp [skH]
  omega
theorem skH_at0 {i : Nat} {y : HRw} {xs : List HRw} (h : i ≤ xs.length) : (skH false i y xs)[i]? = some y := by
  have e : (xs.take i).length = i := by rw [List.length_take]; omega
  unfold skH
  rw [List.getElem?_append_right (by omega), e, Nat.sub_self]
  rfl
/-- The header of the i-th row set to a chain of one's own. -/
theorem rows_set {W : World} {P : Nat → Prop} {g i lo hi m ci : Nat} {ai : Option Addr} {S : Nat → Vr} {key : Int} {xs : List HRw} {x0 : HRw} (hx0 : xs[i]? = some x0) (hk : x0.t.key = key) (hHD : ∀ k x, xs[k]? = some x → CRw W g (k * 2) x.t x.A x.c) (hAX : ApRw xs)
    (hct : ∀ x ∈ xs, (g < x.l ∨ x.h ≤ g) ∧ x.t.n ≤ x.c ∧ Own4 W x.l x.h x.A x.t.n x.t.U ∧ ∀ y, x.l ≤ y → y < x.h → P y) (hap : ∀ x ∈ xs, x.h ≤ lo ∨ hi ≤ x.l) (hch : Own4 W lo hi ai m S) (hmc : m ≤ ci) (hgl : g < lo ∨ hi ≤ g) (hPl : ∀ y, lo ≤ y → y < hi → P y) (hPg : P g) (hg : g < W.heap.size) (hf : ∀ i, W.frozen? ⟨g, i, none⟩ = false) :
    OwnRwP (W.setCell ⟨g, i * 2 + 1, none⟩ (.slice ai m ci)) P (some ⟨g, 0, none⟩) (skL true i ⟨key, m, S⟩ (xs.map HRw.t)).length (fun x => (skL true i ⟨key, m, S⟩ (xs.map HRw.t)).getD x zRw) := by
  have hil : i < xs.length := (List.getElem?_eq_some_iff.1 hx0).1
  have hw : Writes g (g + 1) W (W.setCell ⟨g, i * 2 + 1, none⟩ (.slice ai m ci)) := Writes.setCell (Writes.refl _ _ _) (p := ⟨g, _, none⟩) (Nat.le_refl _) (Nat.lt_succ_self _) _
  have hz : (W.setCell ⟨g, i * 2 + 1, none⟩ (.slice ai m ci)).heap.size = W.heap.size := by simp [World.setCell]
  have e : skL true i ⟨key, m, S⟩ (xs.map HRw.t) = (skH true i ⟨⟨key, m, S⟩, ai, ci, lo, hi⟩ xs).map HRw.t := (skH_t true i (⟨⟨key, m, S⟩, ai, ci, lo, hi⟩ : HRw) xs).symm
  rw [e, List.length_map]
  refine OwnRwP.ofList hPg (by omega) (fun k => by rw [World.frozen?_setCell]; exact hf k) (skH_ap hAX fun x hx => hap x hx) (fun k x hx => ?_) (fun x hx => ?_)
  · rw [skH_get hil] at hx
    by_cases c : k = i
    · subst c
      rw [if_pos rfl] at hx
      injection hx with hx
      subst hx
      obtain ⟨y0, y1⟩ := hHD k x0 hx0
      exact ⟨(setO (by omega)).trans (by rw [y0, hk]), World.cell?_setCell_same _ _ _ y1⟩
    · rw [if_neg c] at hx
      obtain ⟨y0, y1⟩ := hHD k x hx
      exact ⟨(setO (by omega)).trans y0, (setO (by omega)).trans y1⟩
  · obtain ⟨k, hk2, rfl⟩ := List.getElem_of_mem hx
    have gk := skH_get (y := ⟨⟨key, m, S⟩, ai, ci, lo, hi⟩) hil k
    rw [List.getElem?_eq_getElem hk2] at gk
    by_cases c : k = i
    · rw [if_pos c] at gk
      injection gk with gk
      rw [gk]
      exact ⟨hgl, hmc, hch.writes hw (by omega), hPl⟩
    · rw [if_neg c] at gk
      obtain ⟨m1, m2, m3, m4⟩ := hct _ (List.mem_of_getElem? gk.symm)
      exact ⟨m1, m2, m3.writes hw (by omega), m4⟩
end Go.Proofs.YtjdodbiphijjgaaGreat
