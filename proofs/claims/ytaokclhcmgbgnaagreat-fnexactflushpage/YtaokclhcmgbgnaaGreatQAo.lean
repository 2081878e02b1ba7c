/- Copies of a store's disk and log, as stores need them; a copy under way, whichever piece comes first. -/
import Derived.Test.YtaokclhcmgbgnaaGreatQAm
import Derived.Test.YtaokclhcmgbgnaaGreatQDg
import Derived.Test.YtaokclhcmgbgnaaGreatQCca
import Derived.Test.YtaokclhcmgbgnaaGreatQZfd
import Derived.Test.YtaokclhcmgbgnaaGreatQWai
namespace Go.Proofs.YtaokclhcmgbgnaaGreat
open Go.RowKit Go.Deep
set_option linter.unusedVariables false
set_option maxRecDepth 20000
open Go.ChangeShapes Go.WideShapes Go.ChangeAt Go.RowKit Go.Deep Go.Joins

theorem ownB_at {w : World} {lo hi n : Nat} {a : Option Addr} {z : Nat → Int} (h : OwnB w lo hi a n z) : n = 0 ∨ ∃ g off, a = some ⟨g, off, none⟩ ∧ lo ≤ g ∧ g < hi ∧ OwnB w g (g + 1) a n z := by
  obtain ⟨h0, h1 | ⟨b, off, ha, hl, hh, r⟩⟩ := h
  · exact .inl h1
  · exact .inr ⟨b, off, ha, hl, hh, by omega, .inr ⟨b, off, ha, Nat.le_refl _, Nat.lt_succ_self _, r⟩⟩
theorem ownB_zero {w : World} {lo n : Nat} {a : Option Addr} {z : Nat → Int} (h : n = 0) (hl : lo ≤ w.heap.size) : OwnB w lo lo a n z := ⟨hl, .inl h⟩
theorem two_ownG {w : World} {m n1 n2 d1 d2 : Nat} {x1 x2 : Option Addr} {z1 : Nat → Int} {ys : List Int} (h : Two m w (.slice x1 n1 d1) (.slice x2 n2 d2) (zL z1 n1) ys) (hy : ys.length = n2) (hm : m ≤ w.heap.size) : OwnG w m w.heap.size x1 x2 ⟨n1, z1, n2, zOf ys⟩ := by
  obtain ⟨h1, h2, h3⟩ := h
  obtain ⟨y1, e1, k1, o1⟩ := ownB_of_row h1
  obtain ⟨y2, e2, k2, o2⟩ := ownB_of_row h2
  simp only [Value.slice.injEq] at k1 k2
  obtain ⟨rfl, -, -⟩ := k1
  obtain ⟨rfl, -, -⟩ := k2
  rw [zL_len] at o1
  rw [hy] at o2
  have o1' := ownB_zL o1
  refine ⟨Nat.le_refl _, ?_⟩
  rcases ownB_at o1' with p | ⟨g1, f1, rfl, p1, p2, p3⟩
  · rcases ownB_at o2 with q | ⟨g2, f2, rfl, q1, q2, q3⟩
    · exact ⟨m, m, m, m, Nat.le_refl _, hm, Nat.le_refl _, hm, .inl (Nat.le_refl _), ownB_zero p hm, ownB_zero q hm⟩
    · exact ⟨m, m, g2, g2 + 1, Nat.le_refl _, hm, q1, q2, .inl q1, ownB_zero p hm, q3⟩
  · rcases ownB_at o2 with q | ⟨g2, f2, rfl, q1, q2, q3⟩
    · exact ⟨g1, g1 + 1, m, m, p1, p2, Nat.le_refl _, hm, .inr p1, p3, ownB_zero q hm⟩
    · have hne : g1 ≠ g2 := fun e => h3 g1 rfl (by rw [e]; rfl)
      exact ⟨g1, g1 + 1, g2, g2 + 1, p1, p2, q1, q2, by omega, p3, q3⟩
theorem OwnP.lens {w : World} {lo hi : Nat} {a : Option Addr} {n : Nat} {L L' : Nat → Nat} {Z : Nat → Nat → Int} (h : OwnP w lo hi a n L Z) (e : ∀ i, i < n → L i = L' i) : OwnP w lo hi a n L' Z := by
  obtain ⟨h0, h1 | ⟨b, off, ha, hlo, hl, g, o, c, hj, hc⟩⟩ := h
  · exact ⟨h0, .inl h1⟩
  · exact ⟨h0, .inr ⟨b, off, ha, hlo, hl, g, o, c, hj, fun i hi => by rw [← e i hi]; exact hc i hi⟩⟩
theorem OwnL.lens {w : World} {lo hi : Nat} {a : Option Addr} {n : Nat} {P T : Nat → Int} {L L' : Nat → Nat} {Z : Nat → Nat → Int} (h : OwnL w lo hi a n P T L Z) (e : ∀ i, i < n → L i = L' i) : OwnL w lo hi a n P T L' Z := by
  obtain ⟨h0, h1 | ⟨b, off, ha, hlo, hl, g, o, c, hj, hc⟩⟩ := h
  · exact ⟨h0, .inl h1⟩
  · exact ⟨h0, .inr ⟨b, off, ha, hlo, hl, g, o, c, hj, fun i hi => by rw [← e i hi]; exact hc i hi⟩⟩
/-- A disk that is answered, in blocks of its own. -/
def NewD (w w' : World) (v : Value) (D : Dk) : Prop := ∃ a c a' c', v = .agg #[.slice a D.n c, .slice a' D.m c'] ∧ OwnD w' w.heap.size w'.heap.size a a' D
def NewG (w w' : World) (v : Value) (L : Lo) : Prop := ∃ a c a' c', v = .agg #[.slice a L.n1 c, .slice a' L.n2 c'] ∧ OwnG w' w.heap.size w'.heap.size a a' L
theorem l2Copy_new (D : Dk) (a a' : Option Addr) (cap cap' : Nat) (w : World) (hD : GoodD D) (h : DiskAt w a a' D) :
    Calls Tryz.prog 86 #[.agg #[.slice a D.n cap, .slice a' D.m cap']] w fun e w' => ∃ v, e = .returned v ∧ Below w.heap.size w w' ∧ NewD w w' v D := by
  refine (l2Copy_any D.n D.m D.L D.Z D.P D.T D.M D.Y a a' cap cap' w hD.n8 hD.m hD.L hD.M h.1 h.2).mono ?_
  rintro e w' ⟨av, cv, v, mid, rfl, hb, hm, hp, hl⟩
  obtain ⟨al, cl, rfl, _, ho⟩ := hl.own
  have hmid := hp.1
  exact ⟨_, rfl, hb, av, cv, al, cl, rfl, Nat.le_refl _, w.heap.size, mid, mid, w'.heap.size, Nat.le_refl _, hmid, hm, Nat.le_refl _, .inl (Nat.le_refl _), hp.lens fun i hi => (hD.L i hi).symm, ho.lens fun i hi => (hD.M i hi).symm⟩
theorem OwnG.vals {w : World} {lo hi : Nat} {a a' : Option Addr} {L L' : Lo} (h : OwnG w lo hi a a' L) (e1 : L.n1 = L'.n1) (e2 : L.n2 = L'.n2) (e3 : ∀ i, i < L.n1 → L.z1 i = L'.z1 i) (e4 : ∀ i, i < L.n2 → L.z2 i = L'.z2 i) : OwnG w lo hi a a' L' := by
  obtain ⟨h0, l1, u1, l2, u2, k1, k2, k3, k4, k5, p1, p2⟩ := h
  refine ⟨h0, l1, u1, l2, u2, k1, k2, k3, k4, k5, ?_, ?_⟩
  · obtain ⟨q0, q1 | ⟨g, off, ha, q2, q3, q4, q5⟩⟩ := p1
    · exact ⟨q0, .inl (by omega)⟩
    · exact ⟨q0, .inr ⟨g, off, ha, q2, q3, fun i hi => by rw [← e3 i (by omega)]; exact q4 i (by omega), fun i hi => q5 i (by omega)⟩⟩
  · obtain ⟨q0, q1 | ⟨g, off, ha, q2, q3, q4, q5⟩⟩ := p2
    · exact ⟨q0, .inl (by omega)⟩
    · exact ⟨q0, .inr ⟨g, off, ha, q2, q3, fun i hi => by rw [← e4 i (by omega)]; exact q4 i (by omega), fun i hi => q5 i (by omega)⟩⟩
theorem l3Copy_new (L : Lo) (a1 a2 : Option Addr) (c1 c2 : Nat) (w : World) (hs : L.n1 + L.n2 ≤ 90000) (h : LogAt w a1 a2 L) :
    Calls Tryz.prog 87 #[.agg #[.slice a1 L.n1 c1, .slice a2 L.n2 c2]] w fun e w' => ∃ v, e = .returned v ∧ Below w.heap.size w w' ∧ NewG w w' v L := by
  refine (l3Copy_any L a1 a2 c1 c2 w hs h).mono ?_
  rintro e w' ⟨v1, v2, rfl, hb, h2⟩
  obtain ⟨y1, e1, k1, -⟩ := ownB_of_row h2.1
  obtain ⟨y2, e2, k2, -⟩ := ownB_of_row h2.2.1
  rw [zL_len] at k1 k2
  subst k1 k2
  have hle : w.heap.size ≤ w'.heap.size := hb.size
  have hm : w.heap.size + 2 ≤ w'.heap.size ∨ (L.n1 = 0 ∧ L.n2 = 0) := by
    rcases h2.1.2 with ⟨_, q⟩ | ⟨g, _, _, _, q1, q2, _⟩
    · rcases h2.2.1.2 with ⟨_, q'⟩ | ⟨g, _, _, _, q1, q2, _⟩
      · rw [zL_len] at q q'; exact .inr ⟨q, q'⟩
      · left; have := (Array.getElem?_eq_some_iff.1 q2).1; omega
    · left; have := (Array.getElem?_eq_some_iff.1 q2).1; omega
  refine ⟨_, rfl, hb, y1, e1, y2, e2, rfl, ?_⟩
  rcases hm with hm | ⟨q1, q2⟩
  · have ho := two_ownG h2 (by rw [zL_len]) hm
    have h3 := ho.vals (L' := L) rfl rfl (fun i hi => rfl) (fun i hi => by show zOf (zL L.z2 L.n2) i = L.z2 i; have hi2 : i < L.n2 := hi; simp [zOf, zL, hi2])
    exact h3.wide (lo' := w.heap.size) (by omega) (Nat.le_refl _) (Nat.le_refl _)
  · exact ⟨Nat.le_refl _, w.heap.size, w.heap.size, w.heap.size, w.heap.size, Nat.le_refl _, hle, Nat.le_refl _, hle, .inl (Nat.le_refl _), ⟨hle, .inl q1⟩, ⟨hle, .inl q2⟩⟩
/-- Blocks between two sizes get a colour. -/
def colr (col : Nat → Nat) (m n k : Nat) (x : Nat) : Nat := if m ≤ x ∧ x < n then k else col x
theorem colr_new {col : Nat → Nat} {m n k x : Nat} (h1 : m ≤ x) (h2 : x < n) : colr col m n k x = k := if_pos ⟨h1, h2⟩
theorem colr_old {col : Nat → Nat} {m n k x : Nat} (h : x < m) : colr col m n k x = col x := if_neg (by omega)
/-- A copy of a store's lists but its pages under way: of each piece whether it is made. -/
structure LCi (t : Sto) (U0 : World) (col : Nat → Nat) (x4 x7 x8 x11 x12 x15 x17 : Bool) (v10 v13 v14 v17 v18 v21 v3 : Value) (w : World) : Prop where
  below : Below U0.heap.size U0 w
  hc : ∀ x, col x ≠ 0 → U0.heap.size ≤ x ∧ x < w.heap.size
  p4 : x4 = true → ∃ a c a' c' l h, v10 = .agg #[.slice a t.d.n c, .slice a' t.d.m c'] ∧ (∀ x, l ≤ x → x < h → col x = 2) ∧ OwnD w l h a a' t.d
  p7 : x7 = true → ∃ a c a' c' l h, v13 = .agg #[.slice a t.g.n1 c, .slice a' t.g.n2 c'] ∧ (∀ x, l ≤ x → x < h → col x = 3) ∧ OwnG w l h a a' t.g
  p8 : x8 = true → ∃ p, v14 = .slice (some ⟨p, 0, none⟩) 0 0
  p11 : x11 = true → ∃ a c l h, v17 = .slice a t.hn c ∧ (∀ x, l ≤ x → x < h → col x = 4) ∧ Own w l h a t.hn t.hK t.hV ∧ t.hn ≤ c
  p12 : x12 = true → ∃ p, v18 = .slice (some ⟨p, 0, none⟩) 0 0
  p15 : x15 = true → ∃ a c l h, v21 = .slice a t.on c ∧ (∀ x, l ≤ x → x < h → col x = 5) ∧ OwnI w l h a t.on t.oF ∧ t.on ≤ c
  p17 : x17 = true → ∃ B, v3 = .pointer (some ⟨B, 0, none⟩) ∧ col B = 0 ∧ U0.heap.size ≤ B ∧ BoxS w B (.int .i64 0) (.slice none 0 0) (.slice none 0 0) (.slice none 0 0) (.slice none 0 0) (.slice none 0 0) (.slice none 0 0) (.slice none 0 0) ∧ ∀ i, w.frozen? ⟨B, i, none⟩ = false
section
variable {t : Sto} {U0 w w' : World} {col : Nat → Nat} {x4 x7 x8 x11 x12 x15 x17 : Bool} {v10 v13 v14 v17 v18 v21 v3 : Value}
/-- More memory, of one colour or none: what is made stays. -/
theorem LCi.grow (H : LCi t U0 col x4 x7 x8 x11 x12 x15 x17 v10 v13 v14 v17 v18 v21 v3 w) (hb : Below w.heap.size w w') (k : Nat) : LCi t U0 (colr col w.heap.size w'.heap.size k) x4 x7 x8 x11 x12 x15 x17 v10 v13 v14 v17 v18 v21 v3 w' := by
  obtain ⟨h1, h2, h4, h7, h8, h11, h12, h15, h17⟩ := H
  have old : ∀ (j : Nat), j ≠ 0 → ∀ l h, (∀ x, l ≤ x → x < h → col x = j) → ∀ x, l ≤ x → x < h → colr col w.heap.size w'.heap.size k x = j := fun j hj l h q x q1 q2 => by
    have e := q x q1 q2
    have := h2 x (by omega)
    rw [colr_old this.2]; exact e
  have hs := h1.size
  have hs2 := hb.size
  refine ⟨below_then h1 hb, fun x hx => ?_, fun e => ?_, fun e => ?_, h8, fun e => ?_, h12, fun e => ?_, fun e => ?_⟩
  · by_cases c : w.heap.size ≤ x ∧ x < w'.heap.size
    · omega
    · unfold colr at hx; rw [if_neg c] at hx; have := h2 x hx; omega
  · obtain ⟨a, c, a', c', l, h, q1, q2, q3⟩ := h4 e
    exact ⟨a, c, a', c', l, h, q1, old 2 (by omega) l h q2, q3.below hb⟩
  · obtain ⟨a, c, a', c', l, h, q1, q2, q3⟩ := h7 e
    exact ⟨a, c, a', c', l, h, q1, old 3 (by omega) l h q2, q3.below hb⟩
  · obtain ⟨a, c, l, h, q1, q2, q3⟩ := h11 e
    exact ⟨a, c, l, h, q1, old 4 (by omega) l h q2, q3.1.below hb, q3.2⟩
  · obtain ⟨a, c, l, h, q1, q2, q3⟩ := h15 e
    exact ⟨a, c, l, h, q1, old 5 (by omega) l h q2, q3.1.below hb, q3.2⟩
  · obtain ⟨B, q1, q2, q3, q4, q5⟩ := h17 e
    exact ⟨B, q1, by rw [colr_old q4.lt]; exact q2, q3, q4.below hb, fun i => (hb.frozen (p := ⟨B, i, none⟩) q4.lt).trans (q5 i)⟩
theorem LCi.s4 (H : LCi t U0 col x4 x7 x8 x11 x12 x15 x17 v10 v13 v14 v17 v18 v21 v3 w) (hb : Below w.heap.size w w') {v : Value} (hn : NewD w w' v t.d) : LCi t U0 (colr col w.heap.size w'.heap.size 2) true x7 x8 x11 x12 x15 x17 v v13 v14 v17 v18 v21 v3 w' := by
  obtain ⟨a, c, a', c', rfl, ho⟩ := hn
  exact {H.grow hb 2 with p4 := fun _ => ⟨a, c, a', c', w.heap.size, w'.heap.size, rfl, fun x h1 h2 => colr_new h1 h2, ho⟩}
theorem LCi.s7 (H : LCi t U0 col x4 x7 x8 x11 x12 x15 x17 v10 v13 v14 v17 v18 v21 v3 w) (hb : Below w.heap.size w w') {v : Value} (hn : NewG w w' v t.g) : LCi t U0 (colr col w.heap.size w'.heap.size 3) x4 true x8 x11 x12 x15 x17 v10 v v14 v17 v18 v21 v3 w' := by
  obtain ⟨a, c, a', c', rfl, ho⟩ := hn
  exact {H.grow hb 3 with p7 := fun _ => ⟨a, c, a', c', w.heap.size, w'.heap.size, rfl, fun x h1 h2 => colr_new h1 h2, ho⟩}
theorem LCi.s8 (H : LCi t U0 col x4 x7 x8 x11 x12 x15 x17 v10 v13 v14 v17 v18 v21 v3 w) (hb : Below w.heap.size w w') (p : Nat) : LCi t U0 (colr col w.heap.size w'.heap.size 0) x4 x7 true x11 x12 x15 x17 v10 v13 (.slice (some ⟨p, 0, none⟩) 0 0) v17 v18 v21 v3 w' :=
  {H.grow hb 0 with p8 := fun _ => ⟨p, rfl⟩}
theorem LCi.s12 (H : LCi t U0 col x4 x7 x8 x11 x12 x15 x17 v10 v13 v14 v17 v18 v21 v3 w) (hb : Below w.heap.size w w') (p : Nat) : LCi t U0 (colr col w.heap.size w'.heap.size 0) x4 x7 x8 x11 true x15 x17 v10 v13 v14 v17 (.slice (some ⟨p, 0, none⟩) 0 0) v21 v3 w' :=
  {H.grow hb 0 with p12 := fun _ => ⟨p, rfl⟩}
theorem LCi.s11 (H : LCi t U0 col x4 x7 x8 x11 x12 x15 x17 v10 v13 v14 v17 v18 v21 v3 w) (hb : Below w.heap.size w w') {v : Value} (hn : NewHl w w' v t.hn t.hK t.hV) : LCi t U0 (colr col w.heap.size w'.heap.size 4) x4 x7 x8 true x12 x15 x17 v10 v13 v14 v v18 v21 v3 w' := by
  obtain ⟨a, c, rfl, hc, ho⟩ := hn
  exact {H.grow hb 4 with p11 := fun _ => ⟨a, c, w.heap.size, w'.heap.size, rfl, fun x h1 h2 => colr_new h1 h2, ho, hc⟩}
theorem LCi.s15 (H : LCi t U0 col x4 x7 x8 x11 x12 x15 x17 v10 v13 v14 v17 v18 v21 v3 w) (hb : Below w.heap.size w w') {v : Value} (hn : NewIl w w' v t.on t.oF) : LCi t U0 (colr col w.heap.size w'.heap.size 5) x4 x7 x8 x11 x12 true x17 v10 v13 v14 v17 v18 v v3 w' := by
  obtain ⟨a, c, rfl, hc, ho⟩ := hn
  exact {H.grow hb 5 with p15 := fun _ => ⟨a, c, w.heap.size, w'.heap.size, rfl, fun x h1 h2 => colr_new h1 h2, ho, hc⟩}
theorem LCi.s17 (H : LCi t U0 col x4 x7 x8 x11 x12 x15 x17 v10 v13 v14 v17 v18 v21 v3 w) (ty : TypeId) : LCi t U0 (colr col w.heap.size (w.alloc (.cells #[.int .i64 0, .slice none 0 0, .slice none 0 0, .slice none 0 0, .slice none 0 0, .slice none 0 0, .slice none 0 0, .slice none 0 0] ty)).heap.size 0) x4 x7 x8 x11 x12 x15 true v10 v13 v14 v17 v18 v21 (.pointer (some ⟨w.heap.size, 0, none⟩)) (w.alloc (.cells #[.int .i64 0, .slice none 0 0, .slice none 0 0, .slice none 0 0, .slice none 0 0, .slice none 0 0, .slice none 0 0, .slice none 0 0] ty)) :=
  {H.grow (below_new _ _) 0 with p17 := fun _ => ⟨w.heap.size, rfl, colr_new (Nat.le_refl _) (by simp), H.below.size, BoxS.new _ _ _ _ _ _ _ _ _ _, fun i => by simp [go_sem]⟩}
end
end Go.Proofs.YtaokclhcmgbgnaaGreat
