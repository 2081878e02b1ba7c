/- Lists of numbers appended whole; pieces joined; the first place of a number. -/
import Derived.Test.YtcfenhnggccmmaaAil
import Derived.Test.YtcfenhnggccmmaaAsf
namespace Go.Proofs.Ytcfenhnggccmmaa
open Go.ChangeShapes Go.WideShapes Go.ChangeAt Go.RowKit Go.Deep Go.Joins
set_option linter.unusedVariables false
set_option maxRecDepth 20000

theorem run_app_zero16 (w : World) (ty : TypeId) (ba : Option Addr) (n c : Nat) (xa : Option Addr) (xc : Nat) (h : n ≤ c) :
    (Builtin.append_ #[31, 31] ty #[.slice ba n c, .slice xa 0 xc]).run Try.prog w = .ok (.slice ba n c) w := by
  cases ba <;> cases xa <;> simp [Builtin.append_, go_sem, h, Builtin.firstCells, storeCells]
theorem il_one (ys : List Int) : ∀ u ∈ il ys, u.oneCell' = true := by
  intro u hu
  simp only [il, List.mem_map] at hu
  obtain ⟨z, -, rfl⟩ := hu
  rfl
theorem row1_cap {w : World} {base n : Nat} {v : Value} {xs : List Value} (h : w.ownsRow base 2 1 v n xs) : ∃ a cap, v = .slice a n cap ∧ n ≤ cap := by
  obtain ⟨h1, ⟨rfl, h0⟩ | ⟨g, cap, cur, rfl, k⟩⟩ := h
  · exact ⟨none, 0, by rw [h0], by omega⟩
  · refine ⟨_, cap, rfl, ?_⟩
    have := k.2.2
    omega
theorem wp_appIs {o : Oper} {a : Act} {Kc : Act → World → Prop} {Q : Exit → Act → World → Prop} (w : World) (s x : Operand)
    (ho : o.op = .call { callee := .builtin .append, args := #[s, x], argTypes := #[31, 31] })
    (base : Nat) (v : Value) (zs : List Int) (hs : a.eval s = v) (hown : w.ownsRow base 2 1 v zs.length (il zs)) (xa : Option Addr) (c : Nat) (ys : List Int) (hx : a.eval x = .slice xa ys.length c) (hb : IntsAt w xa ys.length (zI ys)) (hbw : base ≤ w.heap.size) (hl : zs.length + ys.length ≤ 100000)
    (h : ∀ v' w', w'.ownsRow base 2 1 v' (zs ++ ys).length (il (zs ++ ys)) → w.grownBy w' v.ownBlock → Kc (a.put o.dst v') w') : o.wp Try.prog a w Kc Q := by
  by_cases hm : ys.length = 0
  · obtain ⟨va, vc, rfl, hvc⟩ := row1_cap hown
    have hr := run_app_zero16 w o.type va zs.length vc xa c hvc
    unfold Oper.wp execOp
    simp only [ho, resolve, invoke, builtin, Sem.run_bind, Sem.run_pure, Result.andThen_ok, List.map_toArray, List.map_cons, List.map_nil, hs, hx, hm, hr]
    have hy : ys = [] := List.length_eq_zero_iff.1 hm
    subst hy
    refine h _ w (by rw [List.append_nil]; exact hown) ⟨rfl, rfl, rfl, Nat.le_refl _, fun q _ _ => rfl⟩
  · rcases hb with hb | ⟨b, off, rfl, hbl, hk⟩
    · exact absurd hb hm
    · obtain ⟨i0, hi, hzz⟩ := Option.map_eq_some_iff.1 info2
      simp only [Prod.mk.injEq] at hzz
      obtain ⟨hz0, hz1, hz2⟩ := hzz
      refine wp_append_own w s x 31 ho base 2 i0 _ 1 8 Try.underlying31 hi hz0 hz1 hz2 rfl (by decide) v zs.length (il zs) hs hown ⟨b, off, none⟩ ys.length c (il ys) hx (by rw [il_len, Nat.mul_one]) (fun j u hj => ?_) (il_one _) (by unfold maxLen; omega) (by omega) hbw fun v' w' h2 h3 _ => h v' w' ?_ h3
      · have hj2 : j < ys.length := by have := (List.getElem?_eq_some_iff.1 hj).1; rwa [il_len] at this
        rw [WideShapes.add_plain, hk j hj2, ← hj]
        simp [il, zI, hj2]
      · rw [List.length_append, il_app]; exact h2
theorem wpList_appIs {ops : Array Oper} {rest : List Oper} {o : Oper} {a : Act} {Q : Exit → Act → World → Prop} (w : World) (hgd : o.guard = none) (s x : Operand)
    (ho : o.op = .call { callee := .builtin .append, args := #[s, x], argTypes := #[31, 31] })
    (base : Nat) (v : Value) (zs : List Int) (hs : a.eval s = v) (hown : w.ownsRow base 2 1 v zs.length (il zs)) (xa : Option Addr) (c : Nat) (ys : List Int) (hx : a.eval x = .slice xa ys.length c) (hb : IntsAt w xa ys.length (zI ys)) (hbw : base ≤ w.heap.size) (hl : zs.length + ys.length ≤ 100000)
    (h : ∀ v' w', w'.ownsRow base 2 1 v' (zs ++ ys).length (il (zs ++ ys)) → w.grownBy w' v.ownBlock → wpList Try.prog ops Q rest (a.put o.dst v') w') : wpList Try.prog ops Q (o :: rest) a w :=
  wpList_plain hgd fun _ hKK => wp_appIs w s x ho base v zs hs hown xa c ys hx hb hbw hl fun v' w' h2 h3 => hKK _ _ (h v' w' h2 h3)
/-- The first k of the pieces, one behind the other. -/
def catL (X : Nat → List Int) : Nat → List Int
  | 0 => []
  | k + 1 => catL X k ++ X k
theorem catL_len {X : Nat → List Int} {B : Nat} : ∀ k, (∀ j, j < k → (X j).length ≤ B) → (catL X k).length ≤ k * B
  | 0, _ => by simp [catL]
  | k + 1, h => by
    have h1 := catL_len k fun j hj => h j (by omega)
    have h2 := h k (by omega)
    simp only [catL, List.length_append, Nat.add_mul]
    omega
set_option maxHeartbeats 1000000 in
theorem joinedIs_any (m : Nat) (X : Nat → List Int) (A : Nat → Option Addr) (C : Nat → Nat) (pb : Nat) (w : World) (hm : m ≤ 10) (hn : ∀ j, j < m → (X j).length ≤ 9000) (hbl : pb < w.heap.size) (hp : ∀ j, j < m → w.cell? ⟨pb, j, none⟩ = some (.slice (A j) (X j).length (C j))) (hb : ∀ j, j < m → IntsAt w (A j) (X j).length (zI (X j))) :
    Calls Try.prog 42 #[.slice (some ⟨pb, 0, none⟩) m m] w fun e w' => ∃ v, e = .returned v ∧ Below w.heap.size w w' ∧ w'.ownsRow w.heap.size 2 1 v (catL X m).length (il (catL X m)) := by
  have HB : Hid (∀ j, j < m → IntsAt w (A j) (X j).length (zI (X j))) := hb
  have HP : Hid (∀ j, j < m → w.cell? ⟨pb, j, none⟩ = some (.slice (A j) (X j).length (C j))) := hp
  have HN : Hid (∀ j, j < m → (X j).length ≤ 9000) := hn
  clear hb hp hn
  go_enter Try.func42, Try.ntmps42
  go_wp2_with fail
  go_loopw [3, 5, 8] (fun v _ i wr => ∃ k : Nat, k ≤ m ∧ i = .int .i64 k ∧ Hid (wr.ownsRow w.heap.size 2 1 v (catL X k).length (il (catL X k))) ∧ Hid (Below w.heap.size w wr)) (fun _ _ i _ => m - (intOf i).toNat)
  case atStart => exact ⟨0, Nat.zero_le _, rfl, World.ownsRow_nil _ _ _ _, Below.refl _ _⟩
  case round =>
    obtain ⟨k, hk, rfl, HO, HB2⟩ := hrel
    by_cases hlt : k < m
    · have hlt' : (k : Int) < (m : Int) := by omega
      have hk0 : (0 : Int) ≤ (k : Int) := by omega
      have hc := cell_below (HP.out k hlt) HB2.out
      have HX : Hid (IntsAt wr (A k) (X k).length (zI (X k))) := (HB.out k hlt).below HB2.out
      have HLn : Hid ((catL X k).length + (X k).length ≤ 100000) := by
        have h1 := catL_len (B := 9000) k fun j hj => HN.out j (by omega)
        have h2 := HN.out k hlt
        show _ ≤ _
        omega
      have hszr := HB2.out.size
      go_wp2_with (at_builtin; refine wpList_appIs _ rfl (.tmp 12) (.tmp 13) rfl w.heap.size _ (catL X k) rfl HO.out (A k) (C k) (X k) rfl HX.out hszr HLn.out ?_)
      intro v1 w1 ho1 hg1
      have HO1 : Hid (w1.ownsRow w.heap.size 2 1 v1 (catL X (k + 1)).length (il (catL X (k + 1)))) := by
        show w1.ownsRow _ _ _ _ _ _
        rw [show (catL X (k + 1)).length = (catL X k).length + (X k).length by simp [catL]]
        exact ho1
      have HB3 : Hid (Below w.heap.size w w1) := by
        refine HB2.out.grown hg1 hszr fun q hq => ?_
        exact (HO.out.lt q hq).1
      clear ho1 hg1 hc
      go_wp2_with fail
      go_roundw
      case rel => exact ⟨k + 1, hlt, by go_num, HO1, HB3⟩
      case measure => simp [intOf]; omega
    · have hkm : k = m := by omega
      subst hkm
      have hnl : ¬ ((k : Int) < (k : Int)) := by omega
      go_wp2_with fail
      go_ret
      exact ⟨_, rfl, HB2.out, HO.out⟩
set_option maxHeartbeats 1000000 in
theorem index9_any (n : Nat) (P : Nat → Int) (a : Option Addr) (cap : Nat) (v : Int) (w : World) (hn : n ≤ 1048576) (h : IntsAt w a n P) :
    Calls Try.prog 41 #[.slice a n cap, .int .i64 v] w fun e w' => e = .returned (.int .i64 (ix9 (fun j => P j == v) n 0)) ∧ w' = w := by
  have HA : Hid (IntsAt w a n P) := h
  generalize hC : ix9 (fun j => P j == v) n 0 = C
  clear h
  go_enter Try.func41, Try.ntmps41
  go_wp2_with fail
  go_loop [5, 8] (fun _ i => ∃ k : Nat, k ≤ n ∧ i = .int .i64 k ∧ Hid (C = ix9 (fun j => P j == v) (n - k) k)) (fun _ i => n - (intOf i).toNat)
  case atStart => exact ⟨0, Nat.zero_le _, rfl, hC.symm⟩
  case round =>
    obtain ⟨k, hk, rfl, HC⟩ := hrel
    by_cases hlt : k < n
    · have hlt' : (k : Int) < (n : Int) := by omega
      have hk0 : (0 : Int) ≤ (k : Int) := by omega
      rcases HA.out with h | ⟨b, off, rfl, hl, hc⟩
      · omega
      have hx := hc k hlt
      have HE0 := HC.out.trans (ix9_at _ hlt)
      clear hc HC hC
      by_cases he : P k = v
      · have HE : Hid (C = k) := by rw [if_pos (by simpa using he)] at HE0; exact HE0
        have he2 : (v == P k) = true := by simp [he]
        clear he HE0
        go_wp2_with fail
        go_ret
        exact ⟨ret_int HE.out.symm, rfl⟩
      · have HE : Hid (C = ix9 (fun j => P j == v) (n - (k + 1)) (k + 1)) := by rw [if_neg (by simpa using he)] at HE0; exact HE0
        have he2 : (v == P k) = false := by simp; omega
        clear he HE0
        go_wp2_with fail
        go_round
        case rel => exact ⟨k + 1, hlt, by go_num, HE⟩
        case measure => simp [intOf]; omega
    · have HE : Hid (C = -1) := by
        have h := HC.out
        rw [show n - k = 0 by omega] at h
        exact h
      have hnl : ¬ ((k : Int) < (n : Int)) := by omega
      clear HC hC
      go_wp2_with fail
      go_ret
      exact ⟨ret_int HE.out.symm, rfl⟩
end Go.Proofs.Ytcfenhnggccmmaa
