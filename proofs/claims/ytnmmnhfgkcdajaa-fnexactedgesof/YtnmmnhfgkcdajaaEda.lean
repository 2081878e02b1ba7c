/- Edges: rows of them, appended; numbers that are looked for; the writers behind one. -/
import Derived.Test.YtnmmnhfgkcdajaaHwb
import Derived.Test.YtnmmnhfgkcdajaaHoa
import Derived.Test.YtnmmnhfgkcdajaaRif
import Derived.Deep.RegionLaw
namespace Go.Proofs.Ytnmmnhfgkcdajaa
open Go.RowKit Go.Deep
set_option linter.unusedVariables false
set_option maxRecDepth 20000

structure Ed where
  f : Int
  t : Int
  k : Int
def e3 (e : Ed) : List Value := [.int .i64 e.f, .int .i64 e.t, .int .i64 e.k]
def el : List Ed → List Value
  | [] => []
  | e :: r => .int .i64 e.f :: .int .i64 e.t :: .int .i64 e.k :: el r
theorem el_app : ∀ a b : List Ed, el (a ++ b) = el a ++ el b
  | [], b => rfl
  | x :: a, b => by simp [el, el_app a b]
theorem el_len : ∀ a : List Ed, (el a).length = a.length * 3
  | [] => rfl
  | x :: a => by simp only [el, List.length_cons, el_len a]; omega
theorem el_one : ∀ a : List Ed, ∀ u ∈ el a, u.oneCell' = true
  | [], u, h => by simp [el] at h
  | x :: a, u, h => by
    simp only [el, List.mem_cons] at h
    rcases h with rfl | rfl | rfl | h
    · rfl
    · rfl
    · rfl
    · exact el_one a u h
def eE (l : List Ed) (i : Nat) : Ed := l.getD i ⟨0, 0, 0⟩
theorem el_at : ∀ (l : List Ed) (i : Nat), i < l.length → (el l)[i * 3]? = some (.int .i64 (eE l i).f) ∧ (el l)[i * 3 + 1]? = some (.int .i64 (eE l i).t) ∧ (el l)[i * 3 + 2]? = some (.int .i64 (eE l i).k)
  | [], i, h => by simp at h
  | x :: r, 0, _ => by simp [el, eE]
  | x :: r, i + 1, h => by
    have ih := el_at r i (by simpa using h)
    have e : eE (x :: r) (i + 1) = eE r i := by simp [eE]
    rw [e]
    refine ⟨?_, ?_, ?_⟩
    · rw [show (i + 1) * 3 = i * 3 + 1 + 1 + 1 by omega]; simpa [el] using ih.1
    · rw [show (i + 1) * 3 + 1 = i * 3 + 1 + 1 + 1 + 1 by omega]; simpa [el] using ih.2.1
    · rw [show (i + 1) * 3 + 2 = i * 3 + 2 + 1 + 1 + 1 by omega]; simpa [el] using ih.2.2
/-- Edges lie at an address. -/
def EdsAt (w : World) (a : Option Addr) (l : List Ed) : Prop := l = [] ∨ ∃ b off, a = some ⟨b, off, none⟩ ∧ b < w.heap.size ∧ ∀ j u, (el l)[j]? = some u → w.cell? ⟨b, off + j, none⟩ = some u
theorem EdsAt.below {w w' : World} {a : Option Addr} {l : List Ed} (h : EdsAt w a l) (hb : Below w.heap.size w w') : EdsAt w' a l := by
  rcases h with h | ⟨b, off, rfl, hl, hc⟩
  · exact .inl h
  · exact .inr ⟨b, off, rfl, Nat.lt_of_lt_of_le hl hb.size, fun j u hj => ((bcell hb).1 _ _ hl).trans (hc j u hj)⟩
abbrev OwnE (w : World) (B : Nat) (v : Value) (l : List Ed) : Prop := w.ownsRow B 61 3 v l.length (el l)
theorem rowE_slice {w : World} {base n : Nat} {v : Value} {xs : List Value} (h : w.ownsRow base 61 3 v n xs) : ∃ a cap, v = .slice a n cap := by
  rcases h.2 with ⟨rfl, h0⟩ | ⟨g, cap, cur, rfl, _⟩
  · exact ⟨none, 0, by rw [h0]⟩
  · exact ⟨_, cap, rfl⟩
theorem ownE_at {w : World} {B : Nat} {a : Option Addr} {cap : Nat} {l : List Ed} (h : OwnE w B (.slice a l.length cap) l) : EdsAt w a l := by
  rcases h.2 with ⟨e, h0⟩ | ⟨g, c, cur, e, hbg, hg, _⟩
  · exact .inl (List.length_eq_zero_iff.1 h0)
  · simp only [Value.slice.injEq] at e
    obtain ⟨rfl, -, rfl⟩ := e
    refine .inr ⟨g, 0, rfl, (Array.getElem?_eq_some_iff.1 hg).1, fun j u hj => ?_⟩
    have hj2 : j < l.length * 3 := by have := (List.getElem?_eq_some_iff.1 hj).1; rw [el_len] at this; exact this
    rw [Nat.zero_add]
    have := h.cellAt j (by omega)
    rw [this]; exact hj
theorem infoE : (Try.prog.info? 61).map (fun i => (i.zero, i.size, i.bytes)) = some (some (.agg #[.int .i64 0, .int .i64 0, .int .i64 0]), 3, 24) := by kernel_rfl
theorem own_capE {w : World} {base : Nat} {a : Option Addr} {n cap : Nat} {xs : List Value} (h : w.ownsRow base 61 3 (.slice a n cap) n xs) : n ≤ cap := by
  rcases h.2 with ⟨e, h0⟩ | ⟨g, c, cur, e, _, _, hnc, _⟩
  · omega
  · simp only [Value.slice.injEq] at e
    omega
theorem run_app_zeroE (w : World) (ty : TypeId) (ba : Option Addr) (n c : Nat) (xa : Option Addr) (xc : Nat) (h : n ≤ c) :
    (Builtin.append_ #[40, 40] ty #[.slice ba n c, .slice xa 0 xc]).run Try.prog w = .ok (.slice ba n c) w := by
  cases ba <;> cases xa <;> simp [Builtin.append_, go_sem, h, Builtin.firstCells, storeCells]
theorem wp_appE {o : Oper} {a : Act} {K : Act → World → Prop} {Q : Exit → Act → World → Prop} (w : World) (s x : Operand)
    (ho : o.op = .call { callee := .builtin .append, args := #[s, x], argTypes := #[40, 40] })
    (base : Nat) (v : Value) (zs ms : List Ed) (hs : a.eval s = v) (hown : OwnE w base v zs)
    (xa : Option Addr) (m c : Nat) (hm : ms.length = m) (hx : a.eval x = .slice xa m c) (hb : EdsAt w xa ms) (h63 : zs.length + m ≤ 100000) (hbase : base ≤ w.heap.size)
    (h : ∀ v' w', OwnE w' base v' (zs ++ ms) → w.grownBy w' v.ownBlock → K (a.put o.dst v') w') : o.wp Try.prog a w K Q := by
  rcases hb with rfl | ⟨b, off, rfl, hbl, hc⟩
  · simp only [List.length_nil] at hm
    subst hm
    obtain ⟨ba, cap, rfl⟩ := rowE_slice hown
    have hr := run_app_zeroE w o.type ba zs.length cap xa c (own_capE hown)
    unfold Oper.wp execOp
    simp only [ho, resolve, invoke, builtin, Sem.run_bind, Sem.run_pure, Result.andThen_ok, List.map_toArray, List.map_cons, List.map_nil, hs, hx, hr]
    refine h _ w ?_ (grown_refl _ _)
    rw [List.append_nil]
    exact hown
  · obtain ⟨i0, hi, hz0, hz1, hz2⟩ := info_partsN infoE
    refine wp_append_own w s x 40 ho base 61 i0 _ 3 24 Try.underlying40 hi hz0 hz1 hz2 rfl (by decide) v zs.length (el zs) hs hown ⟨b, off, none⟩ m c (el ms) hx (by rw [el_len]; omega) (fun j u hj => ?_) (el_one _) (by unfold maxLen; omega) (by omega) hbase fun v' w' h2 h3 _ => h v' w' ?_ h3
    · rw [WideShapes.add_plain]
      exact hc j u hj
    · show w'.ownsRow _ _ _ _ _ _
      rw [List.length_append, hm, el_app]
      exact h2
theorem wpList_appE {ops : Array Oper} {rest : List Oper} {o : Oper} {a : Act} {Q : Exit → Act → World → Prop} (w : World) (hgd : o.guard = none) (s x : Operand)
    (ho : o.op = .call { callee := .builtin .append, args := #[s, x], argTypes := #[40, 40] })
    (base : Nat) (v : Value) (zs ms : List Ed) (hs : a.eval s = v) (hown : OwnE w base v zs)
    (xa : Option Addr) (m c : Nat) (hm : ms.length = m) (hx : a.eval x = .slice xa m c) (hb : EdsAt w xa ms) (h63 : zs.length + m ≤ 100000) (hbase : base ≤ w.heap.size)
    (h : ∀ v' w', OwnE w' base v' (zs ++ ms) → w.grownBy w' v.ownBlock → wpList Try.prog ops Q rest (a.put o.dst v') w') : wpList Try.prog ops Q (o :: rest) a w :=
  wpList_plain hgd fun _ hK => wp_appE w s x ho base v zs ms hs hown xa m c hm hx hb h63 hbase fun v' w' h2 h3 => hK _ _ (h v' w' h2 h3)
theorem step_appE {ops : Array Oper} {o : Oper} {a : Act} {K : Act → World → Prop} {Q : Exit → Act → World → Prop} {E : Prop} (w : World) (hgd : o.guard = none) (s x : Operand)
    (ho : o.op = .call { callee := .builtin .append, args := #[s, x], argTypes := #[40, 40] })
    (base : Nat) (v : Value) (zs ms : List Ed) (hs : a.eval s = v) (hown : OwnE w base v zs)
    (xa : Option Addr) (m c : Nat) (hm : ms.length = m) (hx : a.eval x = .slice xa m c) (hb : EdsAt w xa ms) (h63 : zs.length + m ≤ 100000) (hbase : base ≤ w.heap.size)
    (h : ∀ v' w', OwnE w' base v' (zs ++ ms) → w.grownBy w' v.ownBlock → K (a.put o.dst v') w') :
    if Region.wanted o (yielded ops a.tmps) = true then Oper.wp Try.prog o a w K Q else E := by
  have hw : Region.wanted o (yielded ops a.tmps) = true := by simp [Region.wanted, hgd]
  rw [if_pos hw]
  exact wp_appE w s x ho base v zs ms hs hown xa m c hm hx hb h63 hbase h
/-- One edge that was made for an append. -/
theorem ed_new (w : World) (e : Ed) (t : TypeId) : EdsAt (w.alloc (.cells #[.int .i64 e.f, .int .i64 e.t, .int .i64 e.k] t)) (some ⟨w.heap.size, 0, none⟩) [e] := by
  refine .inr ⟨w.heap.size, 0, rfl, by simp, fun j u hj => ?_⟩
  have hj3 : j < 3 := by have := (List.getElem?_eq_some_iff.1 hj).1; simpa [el] using this
  have : j = 0 ∨ j = 1 ∨ j = 2 := by omega
  rcases this with rfl | rfl | rfl
  all_goals
    rw [← hj]
    simp [go_sem, el]
/-! ### numbers that are looked for -/
def idx (l : List Int) (v : Int) : Int := fst0 (fun i => zI l i == v) l.length
theorem idx_le (l : List Int) (v : Int) : idx l v < l.length := by
  unfold idx
  rcases fst0_spec (fun i => zI l i == v) l.length with ⟨h, _⟩ | ⟨k, h1, h2, _⟩
  · rw [h]; omega
  · rw [h2]; omega
theorem zI_mem {l : List Int} {i : Nat} (h : i < l.length) : zI l i ∈ l := by
  simp only [zI, List.getD_eq_getElem?_getD, List.getElem?_eq_getElem h, Option.getD_some]
  exact List.getElem_mem h
theorem mem_zI {l : List Int} {v : Int} (h : v ∈ l) : ∃ i, i < l.length ∧ zI l i = v := by
  obtain ⟨i, hi, e⟩ := List.mem_iff_getElem.1 h
  exact ⟨i, hi, by simp only [zI, List.getD_eq_getElem?_getD, List.getElem?_eq_getElem hi, Option.getD_some]; exact e⟩
theorem idx_mem (l : List Int) (v : Int) : decide (0 ≤ idx l v) = decide (v ∈ l) := by
  unfold idx
  rcases fst0_spec (fun i => zI l i == v) l.length with ⟨h, h2⟩ | ⟨k, h1, h2, h3, _⟩
  · rw [h]
    have : ¬ v ∈ l := fun hm => by
      obtain ⟨i, hi, e⟩ := mem_zI hm
      have := h2 i hi
      simp [e] at this
    simp [this]
  · rw [h2]
    have : v ∈ l := by have h4 := zI_mem h1; simp at h3; rw [h3] at h4; exact h4
    simp [this]
set_option maxHeartbeats 4000000 in
theorem indexI_any (l : List Int) (a : Option Addr) (cap : Nat) (v : Int) (w : World) (hn : l.length ≤ 100000) (h : IntsAt w a l.length (zI l)) :
    Calls Try.prog 72 #[.slice a l.length cap, .int .i64 v] w fun e w' => e = .returned (.int .i64 (idx l v)) ∧ w' = w := by
  have HX : Hid (IntsAt w a l.length (zI l)) := h
  clear h
  go_enter Try.func72, Try.ntmps72
  go_wp2_with fail
  go_loop [5, 8] (fun _ i => ∃ k : Nat, k ≤ l.length ∧ i = .int .i64 k ∧ Hid (∀ i, i < k → (zI l i == v) = false)) (fun _ i => l.length - (intOf i).toNat)
  case atStart => exact ⟨0, Nat.zero_le _, rfl, fun i hi => by omega⟩
  case round =>
    obtain ⟨k, hk, rfl, HN⟩ := hrel
    by_cases hlt : k < l.length
    · have hlt' : (k : Int) < (l.length : Int) := by omega
      have hk0 : (0 : Int) ≤ (k : Int) := by omega
      rcases HX.out with h | ⟨bb, off, rfl, hl, hcc⟩
      · omega
      have x0 := hcc k hlt
      clear hcc
      have HY : Hid ((zI l k == v) = true → idx l v = (k : Int)) := fun e => by
        unfold idx
        rcases fst0_spec (fun i => zI l i == v) l.length with ⟨_, h2⟩ | ⟨j, h1, h2, h3, h4⟩
        · have := h2 k hlt; rw [e] at this; simp at this
        · rw [h2]
          rcases Nat.lt_trichotomy k j with q | q | q
          · have := h4 k q; rw [e] at this; simp at this
          · omega
          · have := HN.out j q; rw [h3] at this; simp at this
      have HM : Hid ((zI l k == v) = false → ∀ i, i < k + 1 → (zI l i == v) = false) := fun e i hi => by
        by_cases q : i = k
        · subst q; exact e
        · exact HN.out i (by omega)
      generalize zI l k = z at *
      obtain h1 | h1 := boolor (v == z)
      · have HE : Hid (idx l v = (k : Int)) := HY.out (by have : v = z := by simpa using h1
                                                          simp [this])
        clear HY HM
        go_wp2_with fail
        first | (go_ret; exact ⟨ret_int HE.out.symm, rfl⟩) | (go_region; go_wp2_with fail; go_ret; exact ⟨ret_int HE.out.symm, rfl⟩)
      · have HE : Hid (∀ i, i < k + 1 → (zI l i == v) = false) := HM.out (by have : ¬ v = z := by simpa using h1
                                                                             simp; exact fun e => this e.symm)
        clear HY HM
        go_wp2_with fail
        go_round
        case rel => exact ⟨k + 1, hlt, by go_num, HE⟩
        case measure => simp [intOf]; omega
    · have hkn : k = l.length := by omega
      have hnl : ¬ ((k : Int) < (l.length : Int)) := by omega
      have HE : Hid (idx l v = -1) := by
        show idx l v = -1
        unfold idx
        rcases fst0_spec (fun i => zI l i == v) l.length with ⟨h1, _⟩ | ⟨j, h1, _, h3, _⟩
        · exact h1
        · have := HN.out j (by omega); rw [h3] at this; simp at this
      go_wp2_with fail
      go_ret
      exact ⟨ret_int HE.out.symm, rfl⟩
theorem containsI_any (l : List Int) (a : Option Addr) (cap : Nat) (v : Int) (w : World) (hn : l.length ≤ 100000) (h : IntsAt w a l.length (zI l)) :
    Calls Try.prog 70 #[.slice a l.length cap, .int .i64 v] w fun e w' => e = .returned (.bool (decide (v ∈ l))) ∧ w' = w := by
  have HX : Hid (IntsAt w a l.length (zI l)) := h
  have HE : Hid (decide (0 ≤ idx l v) = decide (v ∈ l)) := idx_mem l v
  clear h
  go_enter Try.func70, Try.ntmps70
  go_wp2_with fail
  refine (indexI_any l a cap v _ hn HX.out).mono ?_
  rintro e w1 ⟨rfl, hq⟩
  have hq2 := hq.symm
  clear hq
  subst hq2
  generalize idx l v = q at *
  go_wp2_with fail
  go_ret
  exact ⟨ret_bool HE.out, rfl⟩
end Go.Proofs.Ytnmmnhfgkcdajaa
