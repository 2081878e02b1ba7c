/- Acts appended to a list of the call's own; two such lists, of acts and of numbers; the answer of MergeActs: equal, marked, held. -/
import Derived.Test.YtcfenhnggccmmaaAct
import Derived.Test.YtcfenhnggccmmaaAil
import Derived.Test.YtcfenhnggccmmaaRb
namespace Go.Proofs.Ytcfenhnggccmmaa
open Go.ChangeShapes Go.WideShapes Go.ChangeAt Go.RowKit Go.Deep Go.Joins
set_option linter.unusedVariables false
set_option maxRecDepth 20000

theorem Writes.wide9 {lo hi lo' hi' : Nat} {w w' : World} (h : Writes lo hi w w') (h1 : lo' ≤ lo) (h2 : hi ≤ hi') : Writes lo' hi' w w' := ⟨h.os, h.tape, h.output, h.size, fun k hk hd => h.block k hk (by omega)⟩
/-- Acts as cells. -/
def ac4 (r : Ac) : List Value := [.int .i64 r.k, .int .i64 r.t, .int .i64 r.y, .int .i64 r.o]
def acb : List Ac → List Value
  | [] => []
  | r :: rs => ac4 r ++ acb rs
theorem acb_len : ∀ xs, (acb xs).length = xs.length * 4
  | [] => rfl
  | r :: rs => by simp only [acb, List.length_append, acb_len rs, ac4, List.length_cons, List.length_nil]; omega
theorem acb_app : ∀ xs ys, acb (xs ++ ys) = acb xs ++ acb ys
  | [], ys => rfl
  | r :: rs, ys => by simp only [acb, List.cons_append, acb_app rs ys, List.append_assoc]
theorem acb_get : ∀ (xs : List Ac) (i j : Nat) (r : Ac), xs[i]? = some r → j < 4 → (acb xs)[i * 4 + j]? = (ac4 r)[j]?
  | [], i, j, r, h, _ => by simp at h
  | x :: xs, 0, j, r, h, hj => by
    simp only [List.getElem?_cons_zero, Option.some.injEq] at h
    subst h
    simp only [acb]
    rw [List.getElem?_append_left (by simp [ac4]; omega)]
    congr 1; omega
  | x :: xs, i + 1, j, r, h, hj => by
    simp only [List.getElem?_cons_succ] at h
    simp only [acb]
    rw [List.getElem?_append_right (by simp [ac4]; omega)]
    have := acb_get xs i j r h hj
    rw [← this]
    congr 1
    simp [ac4]; omega
theorem acb_one : ∀ xs, ∀ u ∈ acb xs, u.oneCell' = true
  | [], u, h => by simp [acb] at h
  | r :: rs, u, h => by
    simp only [acb, List.mem_append] at h
    rcases h with h | h
    · simp [ac4] at h
      rcases h with rfl | rfl | rfl | rfl <;> rfl
    · exact acb_one rs u h
/-- A list's acts, by the index. -/
def aX (xs : List Ac) (i : Nat) : Ac := xs.getD i zAc
theorem ownAc_of_row {w : World} {base : Nat} {v : Value} {xs : List Ac} (h : w.ownsRow base 53 4 v xs.length (acb xs)) : ∃ a cap, v = .slice a xs.length cap ∧ ∃ g, (v.ownBlock = some g ∧ base ≤ g ∧ OwnAc w g (g + 1) a xs.length (aX xs)) ∨ (v.ownBlock = none ∧ xs.length = 0) := by
  rcases h.2 with ⟨e, h0⟩ | ⟨g, cap, cur, e, hbg, hg, _⟩
  · exact ⟨none, 0, by rw [e, h0], 0, .inr ⟨by rw [e]; rfl, h0⟩⟩
  · refine ⟨_, cap, e, g, .inl ⟨by rw [e]; rfl, hbg, ?_⟩⟩
    have hlt : g < w.heap.size := (Array.getElem?_eq_some_iff.1 hg).1
    subst e
    refine ⟨hlt, .inr ⟨g, 0, rfl, Nat.le_refl _, Nat.lt_succ_self _, fun i hi => ?_, fun i => h.frozenAt _⟩⟩
    have hr : xs[i]? = some (aX xs i) := by simp [aX, hi]
    have c : ∀ j v, j < 4 → (ac4 (aX xs i))[j]? = some v → w.cell? ⟨g, 0 + i * 4 + j, none⟩ = some v := fun j v hj hv => by
      rw [h.cellAt (0 + i * 4 + j) (by omega), show 0 + i * 4 + j = i * 4 + j by omega, acb_get xs i j _ hr hj, hv]
    exact ⟨c 0 _ (by omega) rfl, c 1 _ (by omega) rfl, c 2 _ (by omega) rfl, c 3 _ (by omega) rfl⟩
theorem ownI_one {w : World} {base : Nat} {v : Value} {zs : List Int} (h : w.ownsRow base 2 1 v zs.length (il zs)) : ∃ a cap, v = .slice a zs.length cap ∧ ∃ g, (v.ownBlock = some g ∧ base ≤ g ∧ OwnI w g (g + 1) a zs.length (zI zs)) ∨ (v.ownBlock = none ∧ zs.length = 0) := by
  rcases h.2 with ⟨rfl, h0⟩ | ⟨g, cap, cur, rfl, hbg, hg, hnc, hcm, hcs, htake⟩
  · exact ⟨none, 0, by rw [h0], 0, .inr ⟨rfl, h0⟩⟩
  · have hlt : g < w.heap.size := (Array.getElem?_eq_some_iff.1 hg).1
    refine ⟨some ⟨g, 0, none⟩, cap, rfl, g, .inl ⟨rfl, hbg, hlt, .inr ⟨g, 0, rfl, Nat.le_refl _, Nat.lt_succ_self _, fun i hi => ?_, fun i hi => h.frozenAt _⟩⟩⟩
    have := h.cellAt i (by omega)
    rw [Nat.zero_add, this]
    simp [il, hi, zI]
theorem rowA_slice {w : World} {base n : Nat} {v : Value} {xs : List Value} (h : w.ownsRow base 53 4 v n xs) : ∃ a cap, v = .slice a n cap := by
  rcases h.2 with ⟨rfl, h0⟩ | ⟨g, cap, cur, rfl, _⟩
  · exact ⟨none, 0, by rw [h0]⟩
  · exact ⟨_, cap, rfl⟩
theorem infoA4 : (Try.prog.info? 53).map (fun i => (i.zero, i.size, i.bytes)) = some (some (.agg #[.int .i64 0, .int .i64 0, .int .i64 0, .int .i64 0]), 4, 32) := by kernel_rfl
theorem wp_appAc {o : Oper} {a : Act} {Kc : Act → World → Prop} {Q : Exit → Act → World → Prop} (w : World) (s x : Operand)
    (ho : o.op = .call { callee := .builtin .append, args := #[s, x], argTypes := #[42, 42] })
    (base : Nat) (v : Value) (zs : List Ac) (hs : a.eval s = v) (hown : w.ownsRow base 53 4 v zs.length (acb zs)) (X O cx : Nat) (z : Ac) (hx : a.eval x = .slice (some ⟨X, O, none⟩) 1 cx) (hc : CAc w X O z) (hb : base ≤ w.heap.size) (hl : zs.length ≤ 100000)
    (hK : ∀ g cap w', w'.ownsRow base 53 4 (.slice (some ⟨g, 0, none⟩) (zs ++ [z]).length cap) (zs ++ [z]).length (acb (zs ++ [z])) → w.grownBy w' v.ownBlock → (v.ownBlock = some g ∨ g = w.heap.size) → g < w'.heap.size → Kc (a.put o.dst (.slice (some ⟨g, 0, none⟩) (zs ++ [z]).length cap)) w') : o.wp Try.prog a w Kc Q := by
  obtain ⟨i0, hi, hzz⟩ := Option.map_eq_some_iff.1 infoA4
  simp only [Prod.mk.injEq] at hzz
  obtain ⟨hz0, hz1, hz2⟩ := hzz
  refine wp_append_lies w s x 42 ho base 53 i0 _ 4 32 Try.underlying42 hi hz0 hz1 hz2 rfl (by decide) v zs.length (acb zs) hs hown ⟨X, O, none⟩ 1 cx (acb [z]) hx rfl (fun j u hj => ?_) (acb_one _) (by decide) (by unfold maxLen; omega) (by omega) hb _ rfl fun g cap w' h2 h3 h4 h5 => ?_
  · obtain ⟨c0, c1, c2, c3⟩ := hc
    have hj4 : j < 4 := by have := (List.getElem?_eq_some_iff.1 hj).1; simpa [acb, ac4] using this
    rw [WideShapes.add_plain]
    have : j = 0 ∨ j = 1 ∨ j = 2 ∨ j = 3 := by omega
    rcases this with rfl | rfl | rfl | rfl <;> simp [acb, ac4] at hj <;> subst hj
    · exact c0
    · exact c1
    · exact c2
    · exact c3
  · have e : (zs ++ [z]).length = zs.length + 1 := by simp
    have hk := hK g cap w'
    rw [e, acb_app] at hk
    exact hk h2 h3 h4 h5
theorem wpList_appAc {ops : Array Oper} {rest : List Oper} {o : Oper} {a : Act} {Q : Exit → Act → World → Prop} (w : World) (hgd : o.guard = none) (s x : Operand)
    (ho : o.op = .call { callee := .builtin .append, args := #[s, x], argTypes := #[42, 42] })
    (base : Nat) (v : Value) (zs : List Ac) (hs : a.eval s = v) (hown : w.ownsRow base 53 4 v zs.length (acb zs)) (X O cx : Nat) (z : Ac) (hx : a.eval x = .slice (some ⟨X, O, none⟩) 1 cx) (hc : CAc w X O z) (hb : base ≤ w.heap.size) (hl : zs.length ≤ 100000)
    (hK : ∀ g cap w', w'.ownsRow base 53 4 (.slice (some ⟨g, 0, none⟩) (zs ++ [z]).length cap) (zs ++ [z]).length (acb (zs ++ [z])) → w.grownBy w' v.ownBlock → (v.ownBlock = some g ∨ g = w.heap.size) → g < w'.heap.size → wpList Try.prog ops Q rest (a.put o.dst (.slice (some ⟨g, 0, none⟩) (zs ++ [z]).length cap)) w') : wpList Try.prog ops Q (o :: rest) a w :=
  wpList_plain hgd fun _ hKK => wp_appAc w s x ho base v zs hs hown X O cx z hx hc hb hl fun g cap w' h2 h3 h4 h5 => hKK _ _ (hK g cap w' h2 h3 h4 h5)
/-! ### two lists -/
def TwoM (m : Nat) (w : World) (v1 v2 : Value) (xs : List Ac) (ys : List Int) : Prop :=
  w.ownsRow m 53 4 v1 xs.length (acb xs) ∧ w.ownsRow m 2 1 v2 ys.length (il ys) ∧ ∀ q, v1.ownBlock = some q → v2.ownBlock ≠ some q
theorem TwoM.kept {m : Nat} {w w' : World} {v1 v2 : Value} {xs : List Ac} {ys : List Int} (h : TwoM m w v1 v2 xs ys) (hb : ∀ q, m ≤ q → q < w.heap.size → w'.heap[q]? = w.heap[q]?) : TwoM m w' v1 v2 xs ys :=
  ⟨ownI_keep h.1 fun q hq => hb q (ownI_lt h.1 q hq).1 (ownI_lt h.1 q hq).2, ownI_keep h.2.1 fun q hq => hb q (ownI_lt h.2.1 q hq).1 (ownI_lt h.2.1 q hq).2, h.2.2⟩
theorem TwoM.below {m : Nat} {w w' : World} {v1 v2 : Value} {xs : List Ac} {ys : List Int} (h : TwoM m w v1 v2 xs ys) (hb : Below w.heap.size w w') : TwoM m w' v1 v2 xs ys :=
  h.kept fun q _ hq => hb.block q hq
theorem TwoM.writes {m lo hi : Nat} {w w' : World} {v1 v2 : Value} {xs : List Ac} {ys : List Int} (h : TwoM m w v1 v2 xs ys) (hw : Writes lo hi w w') (hd : hi ≤ m) : TwoM m w' v1 v2 xs ys :=
  h.kept fun q h1 h2 => hw.block q h2 (by omega)
/-- The first list has grown, or the second. -/
theorem TwoM.grow1 {m g c : Nat} {w w' : World} {v1 v2 : Value} {xs zs : List Ac} {ys : List Int} (h : TwoM m w v1 v2 xs ys) (hg : w.grownBy w' v1.ownBlock) (ho : w'.ownsRow m 53 4 (.slice (some ⟨g, 0, none⟩) zs.length c) zs.length (acb zs)) (hl : v1.ownBlock = some g ∨ g = w.heap.size) : TwoM m w' (.slice (some ⟨g, 0, none⟩) zs.length c) v2 zs ys := by
  refine ⟨ho, ownI_keep h.2.1 fun q hq => ?_, fun q hq hq2 => ?_⟩
  · exact hg.block q (ownI_lt h.2.1 q hq).2 fun e => h.2.2 q e.symm hq
  · simp only [Value.ownBlock, Option.some.injEq] at hq
    subst hq
    rcases hl with h1 | h1
    · exact h.2.2 g h1 hq2
    · have := (ownI_lt h.2.1 g hq2).2; omega
theorem TwoM.grow2 {m g c : Nat} {w w' : World} {v1 v2 : Value} {xs : List Ac} {ys zs : List Int} (h : TwoM m w v1 v2 xs ys) (hg : w.grownBy w' v2.ownBlock) (ho : w'.ownsRow m 2 1 (.slice (some ⟨g, 0, none⟩) zs.length c) zs.length (il zs)) (hl : v2.ownBlock = some g ∨ g = w.heap.size) : TwoM m w' v1 (.slice (some ⟨g, 0, none⟩) zs.length c) xs zs := by
  refine ⟨ownI_keep h.1 fun q hq => ?_, ho, fun q hq hq2 => ?_⟩
  · exact hg.block q (ownI_lt h.1 q hq).2 fun e => h.2.2 q hq e.symm
  · simp only [Value.ownBlock, Option.some.injEq] at hq2
    subst hq2
    rcases hl with h1 | h1
    · exact h.2.2 g hq h1
    · have := (ownI_lt h.1 g hq).2; omega
theorem TwoM.nil (m : Nat) (w : World) : TwoM m w (.slice none 0 0) (.slice none 0 0) [] [] := ⟨World.ownsRow_nil _ _ _ _, World.ownsRow_nil _ _ _ _, fun q h => by simp [Value.ownBlock] at h⟩
/-! ### the answer -/
def MAt (w : World) (a0 : Option Addr) (m : Nat) (S : Nat → Ac) (a2 : Option Addr) (l : Nat) (Z : Nat → Int) : Prop := AcsAt w a0 m S ∧ IntsAt w a2 l Z
def OwnM (w : World) (lo hi : Nat) (a0 : Option Addr) (m : Nat) (S : Nat → Ac) (a2 : Option Addr) (l : Nat) (Z : Nat → Int) : Prop :=
  hi ≤ w.heap.size ∧ ∃ l1 h1 l2 h2, (h1 ≤ l2 ∨ h2 ≤ l1) ∧ lo ≤ l1 ∧ h1 ≤ hi ∧ lo ≤ l2 ∧ h2 ≤ hi ∧ OwnAc w l1 h1 a0 m S ∧ OwnI w l2 h2 a2 l Z
theorem OwnM.at {w : World} {lo hi m l : Nat} {a0 a2 : Option Addr} {S : Nat → Ac} {Z : Nat → Int} (h : OwnM w lo hi a0 m S a2 l Z) : MAt w a0 m S a2 l Z := by
  obtain ⟨_, l1, h1, l2, h2, _, _, _, _, _, k1, k2⟩ := h
  exact ⟨k1.at, k2.at⟩
theorem MAt.below {w w' : World} {m l : Nat} {a0 a2 : Option Addr} {S : Nat → Ac} {Z : Nat → Int} (h : MAt w a0 m S a2 l Z) (hb : Below w.heap.size w w') : MAt w' a0 m S a2 l Z := ⟨h.1.below hb, h.2.below hb⟩
theorem OwnM.at_below {w w' : World} {lo hi m l : Nat} {a0 a2 : Option Addr} {S : Nat → Ac} {Z : Nat → Int} (h : OwnM w lo hi a0 m S a2 l Z) (hb : Below w.heap.size w w') : MAt w' a0 m S a2 l Z := h.at.below hb
theorem OwnM.writes {w w' : World} {lo hi lo' hi' m l : Nat} {a0 a2 : Option Addr} {S : Nat → Ac} {Z : Nat → Int} (h : OwnM w lo hi a0 m S a2 l Z) (hw : Writes lo' hi' w w') (hd : hi ≤ lo' ∨ hi' ≤ lo) : OwnM w' lo hi a0 m S a2 l Z := by
  obtain ⟨h0, l1, h1, l2, h2, k0, k1, k2, k3, k4, k5, k6⟩ := h
  exact ⟨Nat.le_trans h0 hw.size, l1, h1, l2, h2, k0, k1, k2, k3, k4, k5.writes hw (by omega), k6.writes hw (by omega)⟩
theorem OwnM.below {w w' : World} {lo hi m l : Nat} {a0 a2 : Option Addr} {S : Nat → Ac} {Z : Nat → Int} (h : OwnM w lo hi a0 m S a2 l Z) (hb : Below w.heap.size w w') : OwnM w' lo hi a0 m S a2 l Z :=
  h.writes (Writes.of_below (lo := hi) (hi := hi) hb) (.inl (Nat.le_refl _))
/-- What MergeActs answers: a code, or two lists. -/
def MRes (c : Int) (xs : List Ac) (ys : List Int) (w : World) (e : Ending) (w' : World) : Prop :=
  ∃ a0 a1 a2 a3, e = .returned (.agg #[.int .i64 c, .slice a0 (if c = 0 then xs else []).length a1, .slice a2 (if c = 0 then ys else []).length a3]) ∧ Below w.heap.size w w' ∧ OwnM w' w.heap.size w'.heap.size a0 (if c = 0 then xs else []).length (aX (if c = 0 then xs else [])) a2 (if c = 0 then ys else []).length (zI (if c = 0 then ys else []))
theorem mres_bad {c : Int} {xs : List Ac} {ys : List Int} {w w' : World} (hb : Below w.heap.size w w') (hc : c ≠ 0) : MRes c xs ys w (.returned (.agg #[.int .i64 c, .slice none 0 0, .slice none 0 0])) w' := by
  rw [MRes]
  simp only [if_neg hc]
  have := hb.size
  exact ⟨none, 0, none, 0, rfl, hb, Nat.le_refl _, w.heap.size, w.heap.size, w.heap.size, w.heap.size, .inl (Nat.le_refl _), Nat.le_refl _, this, Nat.le_refl _, this, ⟨this, .inl rfl⟩, ⟨this, .inl rfl⟩⟩
theorem mres_ok {c : Int} {xs : List Ac} {ys : List Int} {w wq w' : World} {v1 v2 : Value} {lo l h : Nat} (hc : c = 0) (hB : Below w.heap.size w wq) (hl : w.heap.size ≤ l) (hlh : l ≤ h) (hh : h ≤ lo)
    (ho : TwoM lo wq v1 v2 xs ys) (hw : Writes l h wq w') (hs : w'.heap.size = wq.heap.size) : MRes c xs ys w (.returned (.agg #[.int .i64 0, v1, v2])) w' := by
  rw [MRes, hc]
  simp only [if_true]
  have hbs := hB.size
  have ho' := ho.writes hw hh
  obtain ⟨a, cap, rfl, g, hg⟩ := ownAc_of_row ho'.1
  obtain ⟨a2, cap2, rfl, g2, hg2⟩ := ownI_one ho'.2.1
  refine ⟨a, cap, a2, cap2, rfl, Writes.below hB hw hl, Nat.le_refl _, ?_⟩
  have E : w.heap.size ≤ w'.heap.size := by omega
  rcases hg with ⟨e1, b1, o1⟩ | ⟨e1, z1⟩
  · have s1 := o1.1
    rcases hg2 with ⟨e2, b2, o2⟩ | ⟨e2, z2⟩
    · have hne : g ≠ g2 := fun e => ho.2.2 g e1 (by rw [e]; exact e2)
      exact ⟨g, g + 1, g2, g2 + 1, by omega, by omega, s1, by omega, o2.1, o1, o2⟩
    · exact ⟨g, g + 1, w.heap.size, w.heap.size, by omega, by omega, s1, Nat.le_refl _, E, o1, ⟨E, .inl z2⟩⟩
  · rcases hg2 with ⟨e2, b2, o2⟩ | ⟨e2, z2⟩
    · exact ⟨w.heap.size, w.heap.size, g2, g2 + 1, by omega, Nat.le_refl _, E, by omega, o2.1, ⟨E, .inl z1⟩, o2⟩
    · exact ⟨w.heap.size, w.heap.size, w.heap.size, w.heap.size, .inl (Nat.le_refl _), Nat.le_refl _, E, Nat.le_refl _, E, ⟨E, .inl z1⟩, ⟨E, .inl z2⟩⟩
set_option maxHeartbeats 1000000 in
theorem eqMergeResult_same (c : Int) (m : Nat) (S : Nat → Ac) (l : Nat) (Z : Nat → Int) (a0 b0 : Option Addr) (a1 b1 : Nat) (a2 b2 : Option Addr) (a3 b3 : Nat) (w : World) (hm : m ≤ 1048576) (hl : l ≤ 1048576) (h : MAt w a0 m S a2 l Z) (h' : MAt w b0 m S b2 l Z) :
    Calls Try.prog 25 #[.agg #[.int .i64 c, .slice a0 m a1, .slice a2 l a3], .agg #[.int .i64 c, .slice b0 m b1, .slice b2 l b3]] w fun e w' => e = .returned (.bool true) ∧ Below w.heap.size w w' := by
  have hb0 : ∀ o1 o2, Below w.heap.size w ((w.alloc o1).alloc o2) := fun o1 o2 => ((Below.refl _ _).alloc (Nat.le_refl _) _).alloc (by simp) _
  have HA : Hid (MAt w a0 m S a2 l Z) := h
  have HB : Hid (MAt w b0 m S b2 l Z) := h'
  have c0 := (Box3.new w (.int .i64 c) (.slice a0 m a1) (.slice a2 l a3) 44).alloc (.cells #[.int .i64 c, .slice b0 m b1, .slice b2 l b3] 44)
  have c1 := Box3.new (w.alloc (.cells #[.int .i64 c, .slice a0 m a1, .slice a2 l a3] 44)) (.int .i64 c) (.slice b0 m b1) (.slice b2 l b3) 44
  clear h h'
  go_enter Try.func25, Try.ntmps25
  go_wp2_with fail
  refine (eqActS_any m S a0 b0 a1 b1 _ hm (HA.out.1.below (hb0 _ _)) (HB.out.1.below (hb0 _ _))).mono ?_
  rintro e w1 ⟨rfl, hb1⟩
  have HC : Hid (Below w.heap.size w w1) := below_then (hb0 _ _) hb1
  obtain ⟨q0, q1, q2⟩ := c0.below hb1
  obtain ⟨p0, p1, p2⟩ := c1.below hb1
  clear c0 c1 hb1
  try rw [World.size_alloc] at p0 p1 p2
  go_wp2_with fail
  refine (eqInt64S_any l Z a2 b2 a3 b3 _ hl (HA.out.2.below HC.out) (HB.out.2.below HC.out)).mono ?_
  rintro e w2 ⟨rfl, hb2⟩
  go_wp2_with fail
  go_ret
  exact ⟨rfl, below_then HC.out hb2⟩
set_option maxHeartbeats 1000000 in
theorem markMergeResult_any (c : Int) (m : Nat) (S : Nat → Ac) (l : Nat) (Z : Nat → Int) (a0 : Option Addr) (a1 : Nat) (a2 : Option Addr) (a3 lo hi : Nat) (w : World) (hm : m ≤ 1048576) (hl : l ≤ 1048576) (h : OwnM w lo hi a0 m S a2 l Z) :
    Calls Try.prog 26 #[.agg #[.int .i64 c, .slice a0 m a1, .slice a2 l a3], .int .i64 1] w fun e w' => e = .returned (.int .i64 (1 + (m * 4 + l))) ∧ Writes lo hi w w' ∧ OwnM w' lo hi a0 m (mAc 1) a2 l (ik (1 + m * 4)) := by
  obtain ⟨h0, l1, h1, l2, h2, k0, k1, k2, k3, k4, k5, k6⟩ := h
  have K5 : Hid (OwnAc w l1 h1 a0 m S) := k5
  have K6 : Hid (OwnI w l2 h2 a2 l Z) := k6
  have c0 := Box3.new w (.int .i64 c) (.slice a0 m a1) (.slice a2 l a3) 44
  clear k5 k6
  go_enter Try.func26, Try.ntmps26
  go_wp2_with fail
  refine (markActS_any m S a0 a1 l1 h1 1 _ hm (by omega) (by omega) (K5.out.below (below_new _ _))).mono ?_
  rintro e w1 ⟨rfl, hw, ho⟩
  have HW : Hid (Writes lo hi w w1) := (Writes.of_below (below_new _ _)).trans (hw.wide9 k1 k2)
  have HO : Hid (OwnAc w1 l1 h1 a0 m (mAc 1)) := ho
  have HI : Hid (OwnI w1 l2 h2 a2 l Z) := (K6.out.below (below_new _ _)).writes hw (by omega)
  obtain ⟨q0, q1, q2⟩ := c0.writes hw (by omega)
  clear c0 hw ho
  go_wp2_with fail
  refine (markInt64S_any l Z a2 a3 l2 h2 (1 + m * 4) _ hl (by omega) (by omega) HI.out).mono ?_
  rintro e w2 ⟨rfl, hw, ho⟩
  have HF : Hid (Writes lo hi w w2 ∧ OwnM w2 lo hi a0 m (mAc 1) a2 l (ik (1 + m * 4))) := ⟨HW.out.trans (hw.wide9 k3 k4), Nat.le_trans h0 (HW.out.trans (hw.wide9 k3 k4)).size, l1, h1, l2, h2, k0, k1, k2, k3, k4, HO.out.writes hw (by omega), ho⟩
  clear hw ho
  go_wp2_with fail
  go_ret
  exact ⟨ret_int (by omega), HF.out⟩
set_option maxHeartbeats 1000000 in
theorem heldMergeResult_any (c : Int) (m l : Nat) (a0 : Option Addr) (a1 : Nat) (a2 : Option Addr) (a3 : Nat) (w : World) (hm : m ≤ 1048576) (hl : l ≤ 1048576) (h : MAt w a0 m (mAc 1) a2 l (ik (1 + m * 4))) :
    Calls Try.prog 27 #[.agg #[.int .i64 c, .slice a0 m a1, .slice a2 l a3], .int .i64 1] w fun e w' => e = .returned (.int .i64 (1 + (m * 4 + l))) ∧ Below w.heap.size w w' := by
  have HO : Hid (MAt w a0 m (mAc 1) a2 l (ik (1 + m * 4))) := h
  have hneg1 : ¬ ((1 : Int) + (m : Int) * 4 < 0) := by omega
  have hneg2 : ¬ ((1 : Int) + (m : Int) * 4 + (l : Int) < 0) := by omega
  clear h
  go_enter Try.func27, Try.ntmps27
  go_wp2_with fail
  refine (heldActS_any m a0 a1 1 _ hm (by omega) (by omega) (HO.out.1.below (below_new _ _))).mono ?_
  rintro e w1 ⟨rfl, rfl⟩
  go_wp2_with fail
  refine (heldInt64S_any l a2 a3 (1 + m * 4) _ hl (by omega) (by omega) (HO.out.2.below (below_new _ _))).mono ?_
  rintro e w2 ⟨rfl, rfl⟩
  go_wp2_with fail
  go_ret
  exact ⟨ret_int (by omega), below_new _ _⟩
end Go.Proofs.Ytcfenhnggccmmaa
