/- AppendRec, by the model: a log copied, a record appended. -/
import Derived.Test.YtaokclhcmgbgnaaGreatQLn
import Derived.Deep.AppendLies
namespace Go.Proofs.YtaokclhcmgbgnaaGreat
open Go.RowKit Go.Deep
set_option linter.unusedVariables false
set_option maxRecDepth 20000

theorem wp_appL {o : Oper} {a : Act} {K : Act → World → Prop} {Q : Exit → Act → World → Prop} (w : World) (s x : Operand)
    (ho : o.op = .call { callee := .builtin .append, args := #[s, x], argTypes := #[27, 27] })
    (base : Nat) (v : Value) (zs : List Int) (hs : a.eval s = v) (hown : w.ownsRow base 5 1 v zs.length (bl zs))
    (xa : Option Addr) (m c : Nat) (z : Nat → Int) (hx : a.eval x = .slice xa m c) (hb : BytesAt w xa m z) (h63 : zs.length + m ≤ 100000) (hbase : base ≤ w.heap.size)
    (h : ∀ v' w', w'.ownsRow base 5 1 v' (zs ++ zL z m).length (bl (zs ++ zL z m)) → w.grownBy w' v.ownBlock → (∀ q, v'.ownBlock = some q → v.ownBlock = some q ∨ q = w.heap.size) → K (a.put o.dst v') w') : o.wp Tryz.prog a w K Q := by
  by_cases hm : m = 0
  · subst hm
    obtain ⟨ba, cap, rfl⟩ : ∃ ba cap, v = .slice ba zs.length cap := by
      rcases hown.2 with ⟨rfl, h0⟩ | ⟨g, cap, cur, rfl, _⟩
      · exact ⟨none, 0, by rw [h0]⟩
      · exact ⟨_, cap, rfl⟩
    have hr := run_app_zero w o.type ba zs.length cap xa c (own_cap hown)
    unfold Oper.wp execOp
    simp only [ho, resolve, invoke, builtin, Sem.run_bind, Sem.run_pure, Result.andThen_ok, List.map_toArray, List.map_cons, List.map_nil, hs, hx, hr]
    refine h _ w ?_ (grown_refl _ _) (fun q hq => .inl hq)
    have e : zs ++ zL z 0 = zs := by simp [zL]
    rw [e]
    exact hown
  · rcases hb with hb | ⟨b, off, rfl, hbl, hc⟩
    · exact absurd hb hm
    · obtain ⟨i0, hi, hz0, hz1, hz2⟩ := info_parts info5
      refine wp_append_lies w s x 27 ho base 5 i0 _ 1 1 Tryz.underlying27 hi hz0 hz1 hz2 rfl (by decide) v zs.length (bl zs) hs hown ⟨b, off, none⟩ m c (bl (zL z m)) hx (by rw [bl_len, zL_len]; omega) (fun j u hj => ?_) (bl_one _) (by omega) (by unfold maxLen; omega) (by omega) hbase _ rfl fun g cap w' h2 h3 h4 h5 => h _ w' ?_ h3 fun q hq => ?_
      · obtain ⟨h1, rfl⟩ := zL_bl z m j u hj
        rw [WideShapes.add_plain]
        exact hc j h1
      · rw [List.length_append, zL_len, bl_app]
        exact h2
      · simp only [Value.ownBlock, Option.some.injEq] at hq
        subst hq
        exact h4
theorem step_appL {ops : Array Oper} {o : Oper} {a : Act} {K : Act → World → Prop} {Q : Exit → Act → World → Prop} {E : Prop} (w : World) (hgd : o.guard = none) (s x : Operand)
    (ho : o.op = .call { callee := .builtin .append, args := #[s, x], argTypes := #[27, 27] })
    (base : Nat) (v : Value) (zs : List Int) (hs : a.eval s = v) (hown : w.ownsRow base 5 1 v zs.length (bl zs))
    (xa : Option Addr) (m c : Nat) (z : Nat → Int) (hx : a.eval x = .slice xa m c) (hb : BytesAt w xa m z) (h63 : zs.length + m ≤ 100000) (hbase : base ≤ w.heap.size)
    (h : ∀ v' w', w'.ownsRow base 5 1 v' (zs ++ zL z m).length (bl (zs ++ zL z m)) → w.grownBy w' v.ownBlock → (∀ q, v'.ownBlock = some q → v.ownBlock = some q ∨ q = w.heap.size) → K (a.put o.dst v') w') :
    if Region.wanted o (yielded ops a.tmps) = true then Oper.wp Tryz.prog o a w K Q else E := by
  have hw : Region.wanted o (yielded ops a.tmps) = true := by simp [Region.wanted, hgd]
  rw [if_pos hw]
  exact wp_appL w s x ho base v zs hs hown xa m c z hx hb h63 hbase h
/-- Two lists of bytes in blocks of their own, from m on. -/
def Two (m : Nat) (w : World) (v1 v2 : Value) (xs ys : List Int) : Prop :=
  w.ownsRow m 5 1 v1 xs.length (bl xs) ∧ w.ownsRow m 5 1 v2 ys.length (bl ys) ∧ ∀ q, v1.ownBlock = some q → v2.ownBlock ≠ some q
theorem own_keep {w w' : World} {base n s : Nat} {e : TypeId} {v : Value} {xs : List Value} (h : w.ownsRow base e s v n xs) (hb : ∀ q, v.ownBlock = some q → w'.heap[q]? = w.heap[q]?) : w'.ownsRow base e s v n xs := by
  obtain ⟨h1, h2 | ⟨g, cap, cur, rfl, k1, k2, k3⟩⟩ := h
  · exact ⟨h1, .inl h2⟩
  · exact ⟨h1, .inr ⟨g, cap, cur, rfl, k1, (hb g rfl).trans k2, k3⟩⟩
theorem own_lt2 {w : World} {base n s : Nat} {e : TypeId} {v : Value} {xs : List Value} (h : w.ownsRow base e s v n xs) : ∀ q, v.ownBlock = some q → base ≤ q ∧ q < w.heap.size := by
  intro q hq
  obtain ⟨h1, ⟨rfl, _⟩ | ⟨g, cap, cur, rfl, k1, k2, k3⟩⟩ := h
  · simp [Value.ownBlock] at hq
  · simp only [Value.ownBlock, Option.some.injEq] at hq
    subst hq
    exact ⟨k1, (Array.getElem?_eq_some_iff.1 k2).1⟩
theorem own_down {w : World} {B B' n s : Nat} {e : TypeId} {v : Value} {xs : List Value} (h : w.ownsRow B e s v n xs) (hb : B' ≤ B) : w.ownsRow B' e s v n xs := by
  obtain ⟨h1, h2 | ⟨g, cap, cur, rfl, k1, k2⟩⟩ := h
  · exact ⟨h1, .inl h2⟩
  · exact ⟨h1, .inr ⟨g, cap, cur, rfl, by omega, k2⟩⟩
theorem own_new0 (X : World) {m : Nat} (hm : m ≤ X.heap.size) : (X.alloc (.cells #[] 5)).ownsRow m 5 1 (.slice (some ⟨X.heap.size, 0, none⟩) 0 0) ([] : List Int).length (bl []) :=
  own_down (World.ownsRow_made X #[] 0 (Nat.le_refl _) (by unfold maxLen; omega) rfl) hm
/-- Behind the first append, with or without the other empty list made. -/
structure Cp6 (W w6 : World) (v6 : Value) (xs : List Int) : Prop where
  below : Below W.heap.size W w6
  own : w6.ownsRow W.heap.size 5 1 v6 xs.length (bl xs)
theorem cp6_a {W w6 : World} {v6 : Value} {xs : List Int} (hg : (W.alloc (.cells #[] 5)).drew.grownBy w6 (some W.heap.size)) (ho : w6.ownsRow W.heap.size 5 1 v6 xs.length (bl xs)) : Cp6 W w6 v6 xs := ⟨below_grow0 hg, ho⟩
theorem cp9_a {W w6 w9 : World} {v6 v9 : Value} {xs ys : List Int} (F6 : Cp6 W w6 v6 xs) (hg : (w6.alloc (.cells #[] 5)).grownBy w9 (some w6.heap.size)) (ho : w9.ownsRow W.heap.size 5 1 v9 ys.length (bl ys)) (hl : ∀ q, v9.ownBlock = some q → some w6.heap.size = some q ∨ q = (w6.alloc (.cells #[] 5)).heap.size) :
    Below W.heap.size W w9 ∧ Two W.heap.size w9 v6 v9 xs ys := by
  have hz := F6.below.size
  refine ⟨(below_then F6.below (below_new w6 _)).grown hg (by rw [World.size_alloc]; omega) (fun q hq => by simp at hq; omega), ?_, ho, fun q hq hq9 => ?_⟩
  · refine own_keep F6.own fun q hq => ?_
    have h1 := own_lt2 F6.own q hq
    rw [hg.block q (by rw [World.size_alloc]; omega) (by intro e; simp at e; omega)]
    exact Below.heap_alloc _ _ _ h1.2
  · have h1 := own_lt2 F6.own q hq
    rcases hl q hq9 with h | h
    · simp at h; omega
    · rw [World.size_alloc] at h; omega
theorem own_two (W : World) : ((W.alloc (.cells #[] 5)).alloc (.cells #[] 5)).ownsRow W.heap.size 5 1 (.slice (some ⟨W.heap.size, 0, none⟩) 0 0) ([] : List Int).length (bl []) ∧ ((W.alloc (.cells #[] 5)).alloc (.cells #[] 5)).ownsRow W.heap.size 5 1 (.slice (some ⟨W.heap.size + 1, 0, none⟩) 0 0) ([] : List Int).length (bl []) := by
  constructor
  · refine own_keep (own_new0 W (Nat.le_refl _)) fun q hq => ?_
    simp only [Value.ownBlock, Option.some.injEq] at hq
    subst hq
    exact Below.heap_alloc _ _ _ (by rw [World.size_alloc]; omega)
  · have h := own_new0 (W.alloc (.cells #[] 5)) (m := W.heap.size) (by rw [World.size_alloc]; omega)
    rw [World.size_alloc] at h
    exact h
theorem cp6_b {W w6 : World} {v6 : Value} {xs : List Int} {b3 b7 : Nat} (hb : b3 = W.heap.size ∧ b7 = W.heap.size + 1 ∨ b3 = W.heap.size + 1 ∧ b7 = W.heap.size) (hg : ((W.alloc (.cells #[] 5)).alloc (.cells #[] 5)).drew.grownBy w6 (some b3)) (ho : w6.ownsRow W.heap.size 5 1 v6 xs.length (bl xs)) (hl : ∀ q, v6.ownBlock = some q → some b3 = some q ∨ q = ((W.alloc (.cells #[] 5)).alloc (.cells #[] 5)).drew.heap.size) :
    Cp6 W w6 v6 xs ∧ w6.ownsRow W.heap.size 5 1 (.slice (some ⟨b7, 0, none⟩) 0 0) ([] : List Int).length (bl []) ∧ (∀ q, v6.ownBlock = some q → q ≠ b7) ∧ W.heap.size ≤ b7 ∧ b7 < w6.heap.size := by
  have hz : ((W.alloc (.cells #[] 5)).alloc (.cells #[] 5)).drew.heap.size = W.heap.size + 2 := by show ((W.alloc _).alloc _).heap.size = _; simp
  have hz6 := hg.size
  rw [hz] at hz6
  have hB : Below W.heap.size W w6 := ((below_then (below_new W (.cells #[] 5)) (below_new _ (.cells #[] 5))).drew).grown hg (by rw [hz]; omega) (fun q hq => by simp at hq; omega)
  refine ⟨⟨hB, ho⟩, ?_, fun q hq e => ?_, by omega, by omega⟩
  · have h7 : ((W.alloc (.cells #[] 5)).alloc (.cells #[] 5)).ownsRow W.heap.size 5 1 (.slice (some ⟨b7, 0, none⟩) 0 0) ([] : List Int).length (bl []) := by
      rcases hb with ⟨_, rfl⟩ | ⟨_, rfl⟩
      · exact (own_two W).2
      · exact (own_two W).1
    refine own_keep h7 fun q hq => ?_
    simp only [Value.ownBlock, Option.some.injEq] at hq
    exact hg.block q (by rw [hz]; omega) (by intro e; simp at e; omega)
  · subst e
    rcases hl q hq with h | h
    · simp at h; omega
    · rw [hz] at h; omega
theorem cp9_b {W w6 w9 : World} {v6 v9 : Value} {xs ys : List Int} {b7 : Nat} (F6 : Cp6 W w6 v6 xs) (hne : ∀ q, v6.ownBlock = some q → q ≠ b7) (h1 : W.heap.size ≤ b7) (h2 : b7 < w6.heap.size) (hg : w6.grownBy w9 (some b7)) (ho : w9.ownsRow W.heap.size 5 1 v9 ys.length (bl ys)) (hl : ∀ q, v9.ownBlock = some q → some b7 = some q ∨ q = w6.heap.size) :
    Below W.heap.size W w9 ∧ Two W.heap.size w9 v6 v9 xs ys := by
  refine ⟨F6.below.grown hg F6.below.size (fun q hq => by simp at hq; omega), ?_, ho, fun q hq hq9 => ?_⟩
  · refine own_keep F6.own fun q hq => ?_
    have h3 := own_lt2 F6.own q hq
    exact hg.block q h3.2 (by intro e; simp at e; exact hne q hq e)
  · have h3 := own_lt2 F6.own q hq
    rcases hl q hq9 with h | h
    · simp at h; exact hne q hq h.symm
    · omega
theorem row_shape {w : World} {base n : Nat} {v : Value} {z : Nat → Int} (h : w.ownsRow base 5 1 v ([] ++ zL z n).length (bl ([] ++ zL z n))) : ∃ a cap, v = .slice a n cap := by
  rw [List.nil_append] at h
  obtain ⟨a, cap, e, _⟩ := ownB_of_row h
  exact ⟨a, cap, by rw [e, zL_len]⟩
set_option maxHeartbeats 4000000 in
theorem l3Copy_any (L : Lo) (a1 a2 : Option Addr) (c1 c2 : Nat) (w : World) (hs : L.n1 + L.n2 ≤ 90000) (h : LogAt w a1 a2 L) :
    Calls Tryz.prog 87 #[.agg #[.slice a1 L.n1 c1, .slice a2 L.n2 c2]] w fun e w' => ∃ v1 v2, e = .returned (.agg #[v1, v2]) ∧ Below w.heap.size w w' ∧ Two (w.heap.size + 2) w' v1 v2 (zL L.z1 L.n1) (zL L.z2 L.n2) := by
  have HA : Hid (LogAt w a1 a2 L) := h
  have HBX : Hid (∀ o1 o2 : Obj, o1 = .cells #[.slice a1 L.n1 c1, .slice a2 L.n2 c2] 39 → o2 = .cells #[.slice none 0 0, .slice none 0 0] 39 → Box2 ((w.alloc o1).alloc o2) w.heap.size (.slice a1 L.n1 c1) (.slice a2 L.n2 c2) ∧ Box2 ((w.alloc o1).alloc o2) (w.heap.size + 1) (.slice none 0 0) (.slice none 0 0) ∧ (∀ i, ((w.alloc o1).alloc o2).frozen? ⟨w.heap.size + 1, i, none⟩ = false) ∧ Below w.heap.size w ((w.alloc o1).alloc o2) ∧ ((w.alloc o1).alloc o2).heap.size = w.heap.size + 2) := by
    rintro o1 o2 rfl rfl
    exact ⟨⟨by simp [go_sem], by simp [go_sem]⟩, ⟨by simp [go_sem], by simp [go_sem]⟩, fun i => by simp [go_sem], ((Below.refl _ _).alloc (Nat.le_refl _) _).alloc (by simp) _, by simp⟩
  clear h
  go_enter Tryz.func87, Tryz.ntmps87
  go_upto_region 1 with fail
  obtain ⟨W, hW⟩ : ∃ x, x = (w.alloc (.cells #[.slice a1 L.n1 c1, .slice a2 L.n2 c2] 39)).alloc (.cells #[.slice none 0 0, .slice none 0 0] 39) := ⟨_, rfl⟩
  obtain ⟨hb1, hb2, hbf, hbw, hbs⟩ := HBX.out _ _ rfl rfl
  rw [← hW]
  rw [← hW] at hb1 hb2 hbf hbw hbs
  clear hW HBX
  have HBW : Hid (Below w.heap.size w W) := hbw
  have HR2 : Hid (Box2 W (w.heap.size + 1) (.slice none 0 0) (.slice none 0 0)) := hb2
  have HRF : Hid (∀ i, W.frozen? ⟨w.heap.size + 1, i, none⟩ = false) := hbf
  have HWS : Hid (W.heap.size = w.heap.size + 2) := hbs
  have HAW : Hid (LogAt W a1 a2 L) := HA.out.below hbw
  obtain ⟨q0, q1⟩ := hb1
  have p0 := fun o : Obj => cell_alloc q0 o
  have p1 := fun o : Obj => cell_alloc q1 o
  have u0 := fun o o' : Obj => cell_alloc (cell_alloc q0 o) o'
  have u1 := fun o o' : Obj => cell_alloc (cell_alloc q1 o) o'
  have HL1 : Hid (([] : List Int).length + L.n1 ≤ 100000) := by show ([] : List Int).length + L.n1 ≤ 100000; simp; omega
  have HL2 : Hid (([] : List Int).length + L.n2 ≤ 100000) := by show ([] : List Int).length + L.n2 ≤ 100000; simp; omega
  clear hbw hb2 hbf hbs
  go_region_law (first | (refine step_appL (W.alloc (.cells #[] 5)).drew rfl (.tmp 3) (.tmp 5) rfl W.heap.size (.slice (some ⟨W.heap.size, 0, none⟩) 0 0) [] rfl (own_new0 W (Nat.le_refl _)) a1 L.n1 c1 L.z1 rfl (HAW.out.1.below (below_new W _).drew) HL1.out (Nat.le_of_lt (by show W.heap.size < (W.alloc _).heap.size; rw [World.size_alloc]; omega)) ?_; intro v6 w6 ho6 hg6 hl6; obtain ⟨xa6, xc6, rfl⟩ := row_shape ho6; have F6 := cp6_a hg6 ho6; have s0 := cell_below q0 F6.below; have s1 := cell_below q1 F6.below; have t0 := fun o : Obj => cell_alloc s0 o; have t1 := fun o : Obj => cell_alloc s1 o; clear ho6 hg6 hl6) | (refine step_appL (w6.alloc (.cells #[] 5)) rfl (.tmp 7) (.tmp 9) rfl W.heap.size (.slice (some ⟨w6.heap.size, 0, none⟩) 0 0) [] rfl (own_new0 w6 F6.below.size) a2 L.n2 c2 L.z2 rfl ((HAW.out.2.below F6.below).below (below_new w6 _)) HL2.out (by rw [World.size_alloc]; exact Nat.le_succ_of_le F6.below.size) ?_; intro v9 w9 ho9 hg9 hl9; obtain ⟨xa9, xc9, rfl⟩ := row_shape ho9; have F9 := cp9_a F6 hg9 ho9 hl9; have r0 := cell_below HR2.out.1 F9.1; have r1 := cell_below HR2.out.2 F9.1; have rf := fun i : Nat => (F9.1.frozen (p := ⟨w.heap.size + 1, i, none⟩) (by have := Go.block_lt_of_cell HR2.out.1; exact this)).trans (HRF.out i); clear ho9 hg9 hl9) | (refine step_appL ((W.alloc (.cells #[] 5)).alloc (.cells #[] 5)).drew rfl (.tmp 3) (.tmp 5) rfl W.heap.size (.slice (some ⟨W.heap.size, 0, none⟩) 0 0) [] rfl (own_two W).1 a1 L.n1 c1 L.z1 rfl (HAW.out.1.below (below_then (below_new W _) (below_new _ _)).drew) HL1.out (Nat.le_of_lt (by show W.heap.size < ((W.alloc _).alloc _).heap.size; simp; omega)) ?_; intro v6 w6 ho6 hg6 hl6; obtain ⟨xa6, xc6, rfl⟩ := row_shape ho6; obtain ⟨F6, o7, n7, l7, m7⟩ := cp6_b (b3 := W.heap.size) (b7 := W.heap.size + 1) (.inl ⟨rfl, rfl⟩) hg6 ho6 hl6; have s0 := cell_below q0 F6.below; have s1 := cell_below q1 F6.below; clear ho6 hg6 hl6) | (refine step_appL ((W.alloc (.cells #[] 5)).alloc (.cells #[] 5)).drew rfl (.tmp 3) (.tmp 5) rfl W.heap.size (.slice (some ⟨W.heap.size + 1, 0, none⟩) 0 0) [] rfl (own_two W).2 a1 L.n1 c1 L.z1 rfl (HAW.out.1.below (below_then (below_new W _) (below_new _ _)).drew) HL1.out (Nat.le_of_lt (by show W.heap.size < ((W.alloc _).alloc _).heap.size; simp; omega)) ?_; intro v6 w6 ho6 hg6 hl6; obtain ⟨xa6, xc6, rfl⟩ := row_shape ho6; obtain ⟨F6, o7, n7, l7, m7⟩ := cp6_b (b3 := W.heap.size + 1) (b7 := W.heap.size) (.inr ⟨rfl, rfl⟩) hg6 ho6 hl6; have s0 := cell_below q0 F6.below; have s1 := cell_below q1 F6.below; clear ho6 hg6 hl6) | (refine step_appL w6 rfl (.tmp 7) (.tmp 9) rfl W.heap.size (.slice (some ⟨W.heap.size + 1, 0, none⟩) 0 0) [] rfl o7 a2 L.n2 c2 L.z2 rfl (HAW.out.2.below F6.below) HL2.out F6.below.size ?_; intro v9 w9 ho9 hg9 hl9; obtain ⟨xa9, xc9, rfl⟩ := row_shape ho9; have F9 := cp9_b F6 n7 l7 m7 hg9 ho9 hl9; have r0 := cell_below HR2.out.1 F9.1; have r1 := cell_below HR2.out.2 F9.1; have rf := fun i : Nat => (F9.1.frozen (p := ⟨w.heap.size + 1, i, none⟩) (by have := Go.block_lt_of_cell HR2.out.1; exact this)).trans (HRF.out i); clear ho9 hg9 hl9) | (refine step_appL w6 rfl (.tmp 7) (.tmp 9) rfl W.heap.size (.slice (some ⟨W.heap.size, 0, none⟩) 0 0) [] rfl o7 a2 L.n2 c2 L.z2 rfl (HAW.out.2.below F6.below) HL2.out F6.below.size ?_; intro v9 w9 ho9 hg9 hl9; obtain ⟨xa9, xc9, rfl⟩ := row_shape ho9; have F9 := cp9_b F6 n7 l7 m7 hg9 ho9 hl9; have r0 := cell_below HR2.out.1 F9.1; have r1 := cell_below HR2.out.2 F9.1; have rf := fun i : Nat => (F9.1.frozen (p := ⟨w.heap.size + 1, i, none⟩) (by have := Go.block_lt_of_cell HR2.out.1; exact this)).trans (HRF.out i); clear ho9 hg9 hl9))
  all_goals
    have HB9 : Hid (Below w.heap.size w w9) := below_then HBW.out F9.1
    have H2 : Hid (Two (w.heap.size + 2) w9 (.slice xa6 L.n1 xc6) (.slice xa9 L.n2 xc9) (zL L.z1 L.n1) (zL L.z2 L.n2)) := by
      have h := F9.2
      rw [HWS.out, List.nil_append, List.nil_append] at h
      exact h
    clear F9 F6 s0 s1
    go_wp2_with fail
    refine bodyPost_ret (v := .agg #[.slice xa6 L.n1 xc6, .slice xa9 L.n2 xc9]) (by simp [results, Tryz.results87, go_sem, *]) rfl ?_
    have hw : ∀ w7, Writes (w.heap.size + 1) (w.heap.size + 2) w9 w7 → w7.heap.size = w9.heap.size → Below w.heap.size w w7 ∧ Two (w.heap.size + 2) w7 (.slice xa6 L.n1 xc6) (.slice xa9 L.n2 xc9) (zL L.z1 L.n1) (zL L.z2 L.n2) := fun w7 h7 e7 => by
      obtain ⟨k1, k2, k3⟩ := H2.out
      refine ⟨Writes.below HB9.out h7 (by omega), own_keep k1 fun q hq => ?_, own_keep k2 fun q hq => ?_, k3⟩
      · have h1 := own_lt2 k1 q hq
        exact h7.block q h1.2 (.inr h1.1)
      · have h1 := own_lt2 k2 q hq
        exact h7.block q h1.2 (.inr h1.1)
    refine ⟨_, _, rfl, ?_⟩
    refine hw _ ?_ (by simp [World.setCell])
    repeat (first | exact Writes.refl _ _ _ | apply Writes.drew1 | refine Writes.setCell ?_ (by first | omega | (simp <;> omega)) (by first | omega | (simp <;> omega)) _)
end Go.Proofs.YtaokclhcmgbgnaaGreat
