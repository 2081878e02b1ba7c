/- What is held and numbers: appended to an empty literal, one piece joined. -/
import Derived.Test.YtaokclhcmgbgnaaGreatQBase
import Derived.Test.YtaokclhcmgbgnaaGreatQWae
import Derived.Deep.AppendLies
import Derived.Laws.AppendOwn
import Derived.OwnWalk
import Derived.Test.YtaokclhcmgbgnaaGreatQRb
namespace Go.Proofs.YtaokclhcmgbgnaaGreat
open Go.ChangeShapes Go.WideShapes Go.ChangeAt Go.RowKit Go.Deep Go.Joins
set_option linter.unusedVariables false
set_option maxRecDepth 20000

/-- The cells, as values. -/
def cbF (K V : Nat → Int) (m : Nat) : List Value := (List.range (m * 2)).map (cv K V)
theorem cbF_len (K V : Nat → Int) (m : Nat) : (cbF K V m).length = m * 2 := by simp [cbF]
theorem cbF_get {K V : Nat → Int} {m j : Nat} (h : j < m * 2) : (cbF K V m)[j]? = some (cv K V j) := by simp [cbF, h]
theorem cbF_one (K V : Nat → Int) (m : Nat) : ∀ u ∈ cbF K V m, u.oneCell' = true := by
  intro u hu
  simp only [cbF, List.mem_map] at hu
  obtain ⟨i, _, rfl⟩ := hu
  rfl
theorem info_parts9 {P : Program} {t : TypeId} {z : Value} {s b : Nat} (h : (P.info? t).map (fun i => (i.zero, i.size, i.bytes)) = some (some z, s, b)) : ∃ i, P.info? t = some i ∧ i.zero = some z ∧ i.size = s ∧ i.bytes = b := by
  obtain ⟨i, hi, hzz⟩ := Option.map_eq_some_iff.1 h
  simp only [Prod.mk.injEq] at hzz
  exact ⟨i, hi, hzz.1, hzz.2.1, hzz.2.2⟩
/-- New cells, in a block of their own. -/
def NewC (w w' : World) (v : Value) (m : Nat) (K V : Nat → Int) : Prop := ∃ a cap, v = .slice a m cap ∧ m ≤ cap ∧ Own w' w.heap.size w'.heap.size a m K V
theorem newC_of_row {w w' : World} {v : Value} {K V : Nat → Int} {m : Nat} (h : w'.ownsRow w.heap.size 139 2 v m (cbF K V m)) (hz : w.heap.size ≤ w'.heap.size) : NewC w w' v m K V := by
  rcases h.2 with ⟨rfl, h0⟩ | ⟨g, cap, cur, rfl, hbg, hg, hnc, _⟩
  · exact ⟨none, 0, by rw [h0], by omega, Nat.le_refl _, .inl h0⟩
  · have hlt : g < w'.heap.size := by
      obtain ⟨hlt, _⟩ := Array.getElem?_eq_some_iff.1 hg
      exact hlt
    refine ⟨some ⟨g, 0, none⟩, cap, rfl, by omega, Nat.le_refl _, .inr ⟨g, 0, rfl, hbg, hlt, fun i hi => ?_, fun i hi => ?_, fun i hi => h.frozenAt _, fun i hi => h.frozenAt _⟩⟩
    · rw [Nat.zero_add, h.cellAt (i * 2) (by omega), cbF_get (by omega), cv_key]
    · rw [Nat.zero_add, h.cellAt (i * 2 + 1) (by omega), cbF_get (by omega), cv_val]
theorem run_app_zeroC (w : World) (ty : TypeId) (ba : Option Addr) (n c : Nat) (xa : Option Addr) (xc : Nat) (h : n ≤ c) :
    (Builtin.append_ #[64, 64] ty #[.slice ba n c, .slice xa 0 xc]).run Tryz.prog w = .ok (.slice ba n c) w := by
  cases ba <;> cases xa <;> simp [Builtin.append_, go_sem, h, Builtin.firstCells, storeCells]
theorem wp_app0C {o : Oper} {a : Act} {Kc : Act → World → Prop} {Q : Exit → Act → World → Prop} (w : World) (s x : Operand)
    (ho : o.op = .call { callee := .builtin .append, args := #[s, x], argTypes := #[64, 64] })
    (sp : Option Addr) (hs : a.eval s = .slice sp 0 0) (hsp : sp = none ∨ ∃ p, sp = some ⟨p, 0, none⟩) (xa : Option Addr) (m c : Nat) (K V : Nat → Int) (hx : a.eval x = .slice xa m c) (hb : CellsAt w xa m K V) (h63 : m ≤ 100000)
    (h : ∀ v' w', NewC w w' v' m K V → Below w.heap.size w w' → Kc (a.put o.dst v') w') : o.wp Tryz.prog a w Kc Q := by
  by_cases hm : m = 0
  · subst hm
    have hr := run_app_zeroC w o.type sp 0 0 xa c (Nat.le_refl _)
    unfold Oper.wp execOp
    simp only [ho, resolve, invoke, builtin, Sem.run_bind, Sem.run_pure, Result.andThen_ok, List.map_toArray, List.map_cons, List.map_nil, hs, hx, hr]
    exact h _ w ⟨_, _, rfl, Nat.le_refl _, Nat.le_refl _, .inl rfl⟩ (Below.refl _ _)
  · rcases hb with hb | ⟨b, off, rfl, hbl, hk, hv⟩
    · exact absurd hb hm
    · obtain ⟨i0, hi, hz0, hz1, hz2⟩ := info_parts9 info99
      have hnews : ∀ j u, (cbF K V m)[j]? = some u → w.cell? ((⟨b, off, none⟩ : Addr).add j) = some u := fun j u hj => by
        have hj2 : j < m * 2 := by have := (List.getElem?_eq_some_iff.1 hj).1; rwa [cbF_len] at this
        rw [cbF_get hj2] at hj
        rw [WideShapes.add_plain, ← hj]
        have : j % 2 = 0 ∨ j % 2 = 1 := by omega
        rcases this with e | e
        · obtain ⟨i, rfl⟩ : ∃ i, j = i * 2 := ⟨j / 2, by omega⟩
          rw [cv_key]
          exact hk i (by omega)
        · obtain ⟨i, rfl⟩ : ∃ i, j = i * 2 + 1 := ⟨j / 2, by omega⟩
          rw [cv_val]
          exact hv i (by omega)
      have hlen : (cbF K V m).length = m * i0.size := by rw [cbF_len, hz1]
      have hbt : Builtin.nextslicecap (0 + m) 0 * i0.bytes ≤ 281474976710656 := by rw [Nat.zero_add, nextslicecap_zero (by omega), hz2]; omega
      have r2 := run_append_nil (P := Tryz.prog) w 64 o.type 139 i0 _ Tryz.underlying64 hi hz0 ⟨b, off, none⟩ m c (cbF K V m) hlen hnews (by omega) (by omega) (by rw [hz2]; omega)
      obtain ⟨v', w', r3, h2, h3, -⟩ := run_append_own (P := Tryz.prog) w w.heap.size 64 o.type 139 i0 _ 2 16 Tryz.underlying64 hi hz0 hz1 hz2 rfl (by decide) (.slice none 0 0) 0 [] (World.ownsRow_nil _ _ _ _) ⟨b, off, none⟩ m c (cbF K V m) (by rw [cbF_len]) hnews (cbF_one _ _ _) (by unfold maxLen; omega) (by omega) (Nat.le_refl _)
      have hr : (Builtin.append_ #[64, 64] o.type #[.slice sp 0 0, .slice (some ⟨b, off, none⟩) m c]).run Tryz.prog w = .ok v' w' := by
        rcases hsp with rfl | ⟨p, rfl⟩
        · exact r3
        · have r1 := run_append_grow (P := Tryz.prog) w 64 o.type 139 i0 _ Tryz.underlying64 hi hz0 ⟨p, 0, none⟩ 0 0 [] (by simp) (fun j v hj => by simp at hj) ⟨b, off, none⟩ m c (cbF K V m) hlen hnews (by omega) (by omega) hbt
          rw [← r3, r1, r2]
          simp only [Nat.zero_add, Array.empty_append]
      unfold Oper.wp execOp
      simp only [ho, resolve, invoke, builtin, Sem.run_bind, Sem.run_pure, Result.andThen_ok, List.map_toArray, List.map_cons, List.map_nil, hs, hx, hr]
      refine h _ _ (newC_of_row ?_ h3.size) ((Below.refl _ _).grown h3 (Nat.le_refl _) (fun q hq => by simp [Value.ownBlock] at hq))
      simpa using h2
theorem wpList_app0C {ops : Array Oper} {rest : List Oper} {o : Oper} {a : Act} {Q : Exit → Act → World → Prop} (w : World) (hgd : o.guard = none) (s x : Operand)
    (ho : o.op = .call { callee := .builtin .append, args := #[s, x], argTypes := #[64, 64] })
    (hs : a.eval s = .slice none 0 0) (xa : Option Addr) (m c : Nat) (K V : Nat → Int) (hx : a.eval x = .slice xa m c) (hb : CellsAt w xa m K V) (h63 : m ≤ 100000)
    (h : ∀ v' w', NewC w w' v' m K V → Below w.heap.size w w' → wpList Tryz.prog ops Q rest (a.put o.dst v') w') : wpList Tryz.prog ops Q (o :: rest) a w :=
  wpList_plain hgd fun _ hKK => wp_app0C w s x ho none hs (.inl rfl) xa m c K V hx hb h63 fun v' w' h2 h3 => hKK _ _ (h v' w' h2 h3)
set_option maxHeartbeats 1000000 in
theorem joined1C_any (n : Nat) (K V : Nat → Int) (a : Option Addr) (cap pb : Nat) (w : World) (hn : n ≤ 90000) (hp : w.cell? ⟨pb, 0, none⟩ = some (.slice a n cap)) (hb : CellsAt w a n K V) :
    Calls Tryz.prog 192 #[.slice (some ⟨pb, 0, none⟩) 1 1] w fun e w' => ∃ v, e = .returned v ∧ Below w.heap.size w w' ∧ NewC w w' v n K V := by
  have HB : Hid (CellsAt w a n K V) := hb
  clear hb
  go_enter Tryz.func192, Tryz.ntmps192
  go_wp2_with fail
  go_loopw [3, 5, 8] (fun v _ i wr => (i = .int .i64 0 ∧ v = .slice none 0 0 ∧ wr = w) ∨ (i = .int .i64 1 ∧ Hid (NewC w wr v n K V) ∧ Hid (Below w.heap.size w wr))) (fun _ _ i _ => 1 - (intOf i).toNat)
  case atStart => exact .inl ⟨rfl, rfl, rfl⟩
  case round =>
    rcases hrel with ⟨rfl, rfl, rfl⟩ | ⟨rfl, HN, HB2⟩
    · go_wp2_with (at_builtin; refine wpList_app0C _ rfl (.tmp 12) (.tmp 13) rfl rfl a n cap K V rfl HB.out (by omega) ?_)
      intro v1 w1 hN hb1
      have HN : Hid (NewC wr w1 v1 n K V) := hN
      have HB1 : Hid (Below wr.heap.size wr w1) := hb1
      clear hN hb1
      go_wp2_with fail
      go_roundw
      case rel => exact .inr ⟨by go_num, HN, HB1⟩
      case measure => simp [intOf]
    · clear hp
      go_wp2_with fail
      go_ret
      exact ⟨_, rfl, HB2.out, HN.out⟩
/-- New cells, in a block of their own. -/
def NewHl (w w' : World) (v : Value) (m : Nat) (K V : Nat → Int) : Prop := ∃ a cap, v = .slice a m cap ∧ m ≤ cap ∧ Own w' w.heap.size w'.heap.size a m K V
theorem newHl_of_row {w w' : World} {v : Value} {K V : Nat → Int} {m : Nat} (h : w'.ownsRow w.heap.size 126 2 v m (cbF K V m)) (hz : w.heap.size ≤ w'.heap.size) : NewHl w w' v m K V := by
  rcases h.2 with ⟨rfl, h0⟩ | ⟨g, cap, cur, rfl, hbg, hg, hnc, _⟩
  · exact ⟨none, 0, by rw [h0], by omega, Nat.le_refl _, .inl h0⟩
  · have hlt : g < w'.heap.size := by
      obtain ⟨hlt, _⟩ := Array.getElem?_eq_some_iff.1 hg
      exact hlt
    refine ⟨some ⟨g, 0, none⟩, cap, rfl, by omega, Nat.le_refl _, .inr ⟨g, 0, rfl, hbg, hlt, fun i hi => ?_, fun i hi => ?_, fun i hi => h.frozenAt _, fun i hi => h.frozenAt _⟩⟩
    · rw [Nat.zero_add, h.cellAt (i * 2) (by omega), cbF_get (by omega), cv_key]
    · rw [Nat.zero_add, h.cellAt (i * 2 + 1) (by omega), cbF_get (by omega), cv_val]
theorem run_app_zeroHl (w : World) (ty : TypeId) (ba : Option Addr) (n c : Nat) (xa : Option Addr) (xc : Nat) (h : n ≤ c) :
    (Builtin.append_ #[40, 40] ty #[.slice ba n c, .slice xa 0 xc]).run Tryz.prog w = .ok (.slice ba n c) w := by
  cases ba <;> cases xa <;> simp [Builtin.append_, go_sem, h, Builtin.firstCells, storeCells]
theorem wp_app0Hl {o : Oper} {a : Act} {Kc : Act → World → Prop} {Q : Exit → Act → World → Prop} (w : World) (s x : Operand)
    (ho : o.op = .call { callee := .builtin .append, args := #[s, x], argTypes := #[40, 40] })
    (sp : Option Addr) (hs : a.eval s = .slice sp 0 0) (hsp : sp = none ∨ ∃ p, sp = some ⟨p, 0, none⟩) (xa : Option Addr) (m c : Nat) (K V : Nat → Int) (hx : a.eval x = .slice xa m c) (hb : CellsAt w xa m K V) (h63 : m ≤ 100000)
    (h : ∀ v' w', NewHl w w' v' m K V → Below w.heap.size w w' → Kc (a.put o.dst v') w') : o.wp Tryz.prog a w Kc Q := by
  by_cases hm : m = 0
  · subst hm
    have hr := run_app_zeroHl w o.type sp 0 0 xa c (Nat.le_refl _)
    unfold Oper.wp execOp
    simp only [ho, resolve, invoke, builtin, Sem.run_bind, Sem.run_pure, Result.andThen_ok, List.map_toArray, List.map_cons, List.map_nil, hs, hx, hr]
    exact h _ w ⟨_, _, rfl, Nat.le_refl _, Nat.le_refl _, .inl rfl⟩ (Below.refl _ _)
  · rcases hb with hb | ⟨b, off, rfl, hbl, hk, hv⟩
    · exact absurd hb hm
    · obtain ⟨i0, hi, hz0, hz1, hz2⟩ := info_parts9 infoHeld
      have hnews : ∀ j u, (cbF K V m)[j]? = some u → w.cell? ((⟨b, off, none⟩ : Addr).add j) = some u := fun j u hj => by
        have hj2 : j < m * 2 := by have := (List.getElem?_eq_some_iff.1 hj).1; rwa [cbF_len] at this
        rw [cbF_get hj2] at hj
        rw [WideShapes.add_plain, ← hj]
        have : j % 2 = 0 ∨ j % 2 = 1 := by omega
        rcases this with e | e
        · obtain ⟨i, rfl⟩ : ∃ i, j = i * 2 := ⟨j / 2, by omega⟩
          rw [cv_key]
          exact hk i (by omega)
        · obtain ⟨i, rfl⟩ : ∃ i, j = i * 2 + 1 := ⟨j / 2, by omega⟩
          rw [cv_val]
          exact hv i (by omega)
      have hlen : (cbF K V m).length = m * i0.size := by rw [cbF_len, hz1]
      have hbt : Builtin.nextslicecap (0 + m) 0 * i0.bytes ≤ 281474976710656 := by rw [Nat.zero_add, nextslicecap_zero (by omega), hz2]; omega
      have r2 := run_append_nil (P := Tryz.prog) w 40 o.type 126 i0 _ Tryz.underlying40 hi hz0 ⟨b, off, none⟩ m c (cbF K V m) hlen hnews (by omega) (by omega) (by rw [hz2]; omega)
      obtain ⟨v', w', r3, h2, h3, -⟩ := run_append_own (P := Tryz.prog) w w.heap.size 40 o.type 126 i0 _ 2 16 Tryz.underlying40 hi hz0 hz1 hz2 rfl (by decide) (.slice none 0 0) 0 [] (World.ownsRow_nil _ _ _ _) ⟨b, off, none⟩ m c (cbF K V m) (by rw [cbF_len]) hnews (cbF_one _ _ _) (by unfold maxLen; omega) (by omega) (Nat.le_refl _)
      have hr : (Builtin.append_ #[40, 40] o.type #[.slice sp 0 0, .slice (some ⟨b, off, none⟩) m c]).run Tryz.prog w = .ok v' w' := by
        rcases hsp with rfl | ⟨p, rfl⟩
        · exact r3
        · have r1 := run_append_grow (P := Tryz.prog) w 40 o.type 126 i0 _ Tryz.underlying40 hi hz0 ⟨p, 0, none⟩ 0 0 [] (by simp) (fun j v hj => by simp at hj) ⟨b, off, none⟩ m c (cbF K V m) hlen hnews (by omega) (by omega) hbt
          rw [← r3, r1, r2]
          simp only [Nat.zero_add, Array.empty_append]
      unfold Oper.wp execOp
      simp only [ho, resolve, invoke, builtin, Sem.run_bind, Sem.run_pure, Result.andThen_ok, List.map_toArray, List.map_cons, List.map_nil, hs, hx, hr]
      refine h _ _ (newHl_of_row ?_ h3.size) ((Below.refl _ _).grown h3 (Nat.le_refl _) (fun q hq => by simp [Value.ownBlock] at hq))
      simpa using h2
theorem step_app0Hl {ops : Array Oper} {o : Oper} {a : Act} {Kc : Act → World → Prop} {Q : Exit → Act → World → Prop} {Ee : Prop} (w : World) (d : Option Tmp) (hd : o.dst = d) (hgd : o.guard = none) (s x : Operand)
    (ho : o.op = .call { callee := .builtin .append, args := #[s, x], argTypes := #[40, 40] })
    (p : Nat) (hs : a.eval s = .slice (some ⟨p, 0, none⟩) 0 0) (xa : Option Addr) (m c : Nat) (K V : Nat → Int) (hx : a.eval x = .slice xa m c) (hb : CellsAt w xa m K V) (h63 : m ≤ 100000)
    (h : ∀ v' w', NewHl w w' v' m K V → Below w.heap.size w w' → Kc (a.put d v') w') :
    if Region.wanted o (yielded ops a.tmps) = true then Oper.wp Tryz.prog o a w Kc Q else Ee := by
  have hw : Region.wanted o (yielded ops a.tmps) = true := by simp [Region.wanted, hgd]
  rw [if_pos hw]
  subst hd
  exact wp_app0Hl w s x ho _ hs (.inr ⟨p, rfl⟩) xa m c K V hx hb h63 h
theorem run_bs0Hl (w : World) : (Instr.buildSlice 40 0 #[]).run Tryz.prog w = .ok (.slice (some ⟨w.heap.size, 0, none⟩) 0 0) (w.alloc (.cells #[] 126)) := by
  obtain ⟨i0, hi, hz0, hz1, hz2⟩ := info_parts9 infoHeld
  simp [Instr.buildSlice, Sem.run_bind, run_underlying Tryz.underlying40, sizeOf, typeInfo, hi, Instr.fill, newRow, show Array.range 0 = #[] from rfl]
theorem step_bs0Hl {ops : Array Oper} {o : Oper} {a : Act} {Kc : Act → World → Prop} {Q : Exit → Act → World → Prop} {Ee : Prop} (w : World) (d : Option Tmp) (hd : o.dst = d) (hgd : o.guard = none) (ho : o.op = .buildSlice 40 0 #[])
    (h : ∀ p w', Below w.heap.size w w' → Kc (a.put d (.slice (some ⟨p, 0, none⟩) 0 0)) w') :
    if Region.wanted o (yielded ops a.tmps) = true then Oper.wp Tryz.prog o a w Kc Q else Ee := by
  have hw : Region.wanted o (yielded ops a.tmps) = true := by simp [Region.wanted, hgd]
  rw [if_pos hw]
  subst hd
  unfold Oper.wp execOp
  simp only [ho, List.map_toArray, List.map_nil, run_bs0Hl w, Sem.run_bind, Sem.run_pure, Result.andThen_ok]
  exact h _ _ (below_new _ _)
theorem infoSHl : (Tryz.prog.info? 40).map (fun i => (i.zero, i.size, i.bytes)) = some (some (.slice none 0 0), 1, 24) := by kernel_rfl
theorem run_bsSHl (w : World) (a : Option Addr) (n c : Nat) : (Instr.buildSlice 245 1 #[(0, .slice a n c)]).run Tryz.prog w = .ok (.slice (some ⟨w.heap.size, 0, none⟩) 1 1) (w.alloc (.cells #[.slice a n c] 40)) := by
  obtain ⟨i0, hi, hz0, hz1, hz2⟩ := info_parts9 infoSHl
  simp [Instr.buildSlice, Sem.run_bind, run_underlying Tryz.underlying245, sizeOf, typeInfo, hi, hz1, zeroValue, hz0, Instr.fill, Value.cells, newRow, show Array.range 1 = #[0] from rfl]
theorem step_bsSHl {ops : Array Oper} {o : Oper} {a : Act} {Kc : Act → World → Prop} {Q : Exit → Act → World → Prop} {Ee : Prop} (w : World) (d : Option Tmp) (hd : o.dst = d) (hgd : o.guard = none) (x : Operand) (ho : o.op = .buildSlice 245 1 #[(0, x)])
    (ad : Option Addr) (n c : Nat) (hx : a.eval x = .slice ad n c)
    (h : ∀ X w', w'.cell? ⟨X, 0, none⟩ = some (.slice ad n c) → Below w.heap.size w w' → Kc (a.put d (.slice (some ⟨X, 0, none⟩) 1 1)) w') :
    if Region.wanted o (yielded ops a.tmps) = true then Oper.wp Tryz.prog o a w Kc Q else Ee := by
  have hw : Region.wanted o (yielded ops a.tmps) = true := by simp [Region.wanted, hgd]
  rw [if_pos hw]
  subst hd
  unfold Oper.wp execOp
  simp only [ho, hx, List.map_toArray, List.map_cons, List.map_nil, run_bsSHl w ad n c, Sem.run_bind, Sem.run_pure, Result.andThen_ok]
  exact h _ _ (by simp [go_sem]) (below_new _ _)
/-- New cells, in a block of their own. -/
def NewIl (w w' : World) (v : Value) (m : Nat) (z : Nat → Int) : Prop := ∃ a cap, v = .slice a m cap ∧ m ≤ cap ∧ OwnI w' w.heap.size w'.heap.size a m z
theorem ivs_get {z : Nat → Int} {m j : Nat} (h : j < m) : (ivs z m)[j]? = some (.int .i64 (z j)) := by simp [ivs, h]
theorem ivs_one (z : Nat → Int) (m : Nat) : ∀ u ∈ ivs z m, u.oneCell' = true := by
  intro u hu
  simp only [ivs, List.mem_map] at hu
  obtain ⟨i, _, rfl⟩ := hu
  rfl
theorem newIl_of_row {w w' : World} {v : Value} {z : Nat → Int} {m : Nat} (h : w'.ownsRow w.heap.size 2 1 v m (ivs z m)) (hz : w.heap.size ≤ w'.heap.size) : NewIl w w' v m z := by
  rcases h.2 with ⟨rfl, h0⟩ | ⟨g, cap, cur, rfl, hbg, hg, hnc, _⟩
  · exact ⟨none, 0, by rw [h0], by omega, Nat.le_refl _, .inl h0⟩
  · have hlt : g < w'.heap.size := by
      obtain ⟨hlt, _⟩ := Array.getElem?_eq_some_iff.1 hg
      exact hlt
    refine ⟨some ⟨g, 0, none⟩, cap, rfl, by omega, Nat.le_refl _, .inr ⟨g, 0, rfl, hbg, hlt, fun i hi => ?_, fun i hi => h.frozenAt _⟩⟩
    rw [Nat.zero_add, h.cellAt i (by omega), ivs_get hi]
theorem run_app_zeroIl (w : World) (ty : TypeId) (ba : Option Addr) (n c : Nat) (xa : Option Addr) (xc : Nat) (h : n ≤ c) :
    (Builtin.append_ #[31, 31] ty #[.slice ba n c, .slice xa 0 xc]).run Tryz.prog w = .ok (.slice ba n c) w := by
  cases ba <;> cases xa <;> simp [Builtin.append_, go_sem, h, Builtin.firstCells, storeCells]
theorem wp_app0Il {o : Oper} {a : Act} {Kc : Act → World → Prop} {Q : Exit → Act → World → Prop} (w : World) (s x : Operand)
    (ho : o.op = .call { callee := .builtin .append, args := #[s, x], argTypes := #[31, 31] })
    (sp : Option Addr) (hs : a.eval s = .slice sp 0 0) (hsp : sp = none ∨ ∃ p, sp = some ⟨p, 0, none⟩) (xa : Option Addr) (m c : Nat) (z : Nat → Int) (hx : a.eval x = .slice xa m c) (hb : IntsAt w xa m z) (h63 : m ≤ 100000)
    (h : ∀ v' w', NewIl w w' v' m z → Below w.heap.size w w' → Kc (a.put o.dst v') w') : o.wp Tryz.prog a w Kc Q := by
  by_cases hm : m = 0
  · subst hm
    have hr := run_app_zeroIl w o.type sp 0 0 xa c (Nat.le_refl _)
    unfold Oper.wp execOp
    simp only [ho, resolve, invoke, builtin, Sem.run_bind, Sem.run_pure, Result.andThen_ok, List.map_toArray, List.map_cons, List.map_nil, hs, hx, hr]
    exact h _ w ⟨_, _, rfl, Nat.le_refl _, Nat.le_refl _, .inl rfl⟩ (Below.refl _ _)
  · rcases hb with hb | ⟨b, off, rfl, hbl, hk⟩
    · exact absurd hb hm
    · obtain ⟨i0, hi, hz0, hz1, hz2⟩ := info_parts9 info2
      have hnews : ∀ j u, (ivs z m)[j]? = some u → w.cell? ((⟨b, off, none⟩ : Addr).add j) = some u := fun j u hj => by
        have hj2 : j < m := by have := (List.getElem?_eq_some_iff.1 hj).1; rwa [ivs_len] at this
        rw [ivs_get hj2] at hj
        rw [WideShapes.add_plain, ← hj]
        exact hk j hj2
      have hlen : (ivs z m).length = m * i0.size := by rw [ivs_len, hz1]; omega
      have hbt : Builtin.nextslicecap (0 + m) 0 * i0.bytes ≤ 281474976710656 := by rw [Nat.zero_add, nextslicecap_zero (by omega), hz2]; omega
      have r2 := run_append_nil (P := Tryz.prog) w 31 o.type 2 i0 _ Tryz.underlying31 hi hz0 ⟨b, off, none⟩ m c (ivs z m) hlen hnews (by omega) (by omega) (by rw [hz2]; omega)
      obtain ⟨v', w', r3, h2, h3, -⟩ := run_append_own (P := Tryz.prog) w w.heap.size 31 o.type 2 i0 _ 1 8 Tryz.underlying31 hi hz0 hz1 hz2 rfl (by decide) (.slice none 0 0) 0 [] (World.ownsRow_nil _ _ _ _) ⟨b, off, none⟩ m c (ivs z m) (by rw [ivs_len]; omega) hnews (ivs_one _ _) (by unfold maxLen; omega) (by omega) (Nat.le_refl _)
      have hr : (Builtin.append_ #[31, 31] o.type #[.slice sp 0 0, .slice (some ⟨b, off, none⟩) m c]).run Tryz.prog w = .ok v' w' := by
        rcases hsp with rfl | ⟨p, rfl⟩
        · exact r3
        · have r1 := run_append_grow (P := Tryz.prog) w 31 o.type 2 i0 _ Tryz.underlying31 hi hz0 ⟨p, 0, none⟩ 0 0 [] (by simp) (fun j v hj => by simp at hj) ⟨b, off, none⟩ m c (ivs z m) hlen hnews (by omega) (by omega) hbt
          rw [← r3, r1, r2]
          simp only [Nat.zero_add, Array.empty_append]
      unfold Oper.wp execOp
      simp only [ho, resolve, invoke, builtin, Sem.run_bind, Sem.run_pure, Result.andThen_ok, List.map_toArray, List.map_cons, List.map_nil, hs, hx, hr]
      refine h _ _ (newIl_of_row ?_ h3.size) ((Below.refl _ _).grown h3 (Nat.le_refl _) (fun q hq => by simp [Value.ownBlock] at hq))
      simpa using h2
theorem step_app0Il {ops : Array Oper} {o : Oper} {a : Act} {Kc : Act → World → Prop} {Q : Exit → Act → World → Prop} {Ee : Prop} (w : World) (d : Option Tmp) (hd : o.dst = d) (hgd : o.guard = none) (s x : Operand)
    (ho : o.op = .call { callee := .builtin .append, args := #[s, x], argTypes := #[31, 31] })
    (p : Nat) (hs : a.eval s = .slice (some ⟨p, 0, none⟩) 0 0) (xa : Option Addr) (m c : Nat) (z : Nat → Int) (hx : a.eval x = .slice xa m c) (hb : IntsAt w xa m z) (h63 : m ≤ 100000)
    (h : ∀ v' w', NewIl w w' v' m z → Below w.heap.size w w' → Kc (a.put d v') w') :
    if Region.wanted o (yielded ops a.tmps) = true then Oper.wp Tryz.prog o a w Kc Q else Ee := by
  have hw : Region.wanted o (yielded ops a.tmps) = true := by simp [Region.wanted, hgd]
  rw [if_pos hw]
  subst hd
  exact wp_app0Il w s x ho _ hs (.inr ⟨p, rfl⟩) xa m c z hx hb h63 h
theorem run_bs0Il (w : World) : (Instr.buildSlice 31 0 #[]).run Tryz.prog w = .ok (.slice (some ⟨w.heap.size, 0, none⟩) 0 0) (w.alloc (.cells #[] 2)) := by
  obtain ⟨i0, hi, hz0, hz1, hz2⟩ := info_parts9 info2
  simp [Instr.buildSlice, Sem.run_bind, run_underlying Tryz.underlying31, sizeOf, typeInfo, hi, Instr.fill, newRow, show Array.range 0 = #[] from rfl]
theorem step_bs0Il {ops : Array Oper} {o : Oper} {a : Act} {Kc : Act → World → Prop} {Q : Exit → Act → World → Prop} {Ee : Prop} (w : World) (d : Option Tmp) (hd : o.dst = d) (hgd : o.guard = none) (ho : o.op = .buildSlice 31 0 #[])
    (h : ∀ p w', Below w.heap.size w w' → Kc (a.put d (.slice (some ⟨p, 0, none⟩) 0 0)) w') :
    if Region.wanted o (yielded ops a.tmps) = true then Oper.wp Tryz.prog o a w Kc Q else Ee := by
  have hw : Region.wanted o (yielded ops a.tmps) = true := by simp [Region.wanted, hgd]
  rw [if_pos hw]
  subst hd
  unfold Oper.wp execOp
  simp only [ho, List.map_toArray, List.map_nil, run_bs0Il w, Sem.run_bind, Sem.run_pure, Result.andThen_ok]
  exact h _ _ (below_new _ _)
theorem infoSIl : (Tryz.prog.info? 31).map (fun i => (i.zero, i.size, i.bytes)) = some (some (.slice none 0 0), 1, 24) := by kernel_rfl
theorem run_bsSIl (w : World) (a : Option Addr) (n c : Nat) : (Instr.buildSlice 246 1 #[(0, .slice a n c)]).run Tryz.prog w = .ok (.slice (some ⟨w.heap.size, 0, none⟩) 1 1) (w.alloc (.cells #[.slice a n c] 31)) := by
  obtain ⟨i0, hi, hz0, hz1, hz2⟩ := info_parts9 infoSIl
  simp [Instr.buildSlice, Sem.run_bind, run_underlying Tryz.underlying246, sizeOf, typeInfo, hi, hz1, zeroValue, hz0, Instr.fill, Value.cells, newRow, show Array.range 1 = #[0] from rfl]
theorem step_bsSIl {ops : Array Oper} {o : Oper} {a : Act} {Kc : Act → World → Prop} {Q : Exit → Act → World → Prop} {Ee : Prop} (w : World) (d : Option Tmp) (hd : o.dst = d) (hgd : o.guard = none) (x : Operand) (ho : o.op = .buildSlice 246 1 #[(0, x)])
    (ad : Option Addr) (n c : Nat) (hx : a.eval x = .slice ad n c)
    (h : ∀ X w', w'.cell? ⟨X, 0, none⟩ = some (.slice ad n c) → Below w.heap.size w w' → Kc (a.put d (.slice (some ⟨X, 0, none⟩) 1 1)) w') :
    if Region.wanted o (yielded ops a.tmps) = true then Oper.wp Tryz.prog o a w Kc Q else Ee := by
  have hw : Region.wanted o (yielded ops a.tmps) = true := by simp [Region.wanted, hgd]
  rw [if_pos hw]
  subst hd
  unfold Oper.wp execOp
  simp only [ho, hx, List.map_toArray, List.map_cons, List.map_nil, run_bsSIl w ad n c, Sem.run_bind, Sem.run_pure, Result.andThen_ok]
  exact h _ _ (by simp [go_sem]) (below_new _ _)
end Go.Proofs.YtaokclhcmgbgnaaGreat
