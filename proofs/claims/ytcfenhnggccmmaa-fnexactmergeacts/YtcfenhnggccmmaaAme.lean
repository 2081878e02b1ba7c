/- impl.turnsOf: a session for each list, and what takes its turn. -/
import Derived.Test.YtcfenhnggccmmaaAmd
namespace Go.Proofs.Ytcfenhnggccmmaa
open Go.ChangeShapes Go.WideShapes Go.ChangeAt Go.RowKit Go.Deep Go.Joins Go.Shelf
set_option linter.unusedVariables false
set_option linter.unusedSimpArgs false
set_option maxRecDepth 20000

/-- A list's acts as a session holds them: twelve places, those of no Kind behind. -/
def actF (t : Al) (i : Nat) : Ac := if i < t.n then t.R i else zAc
def actL (t : Al) (j : Nat) : List Ac := (List.range 12).map fun i => actF t (j + i)
theorem actL_len (t : Al) (j : Nat) : (actL t j).length = 12 := by simp [actL]
theorem actL_shift (t : Al) (j : Nat) (h : t.n ≤ j + 12) : (actL t j).drop 1 ++ [zAc] = actL t (j + 1) := by
  have e : actF t (j + 12) = zAc := by unfold actF; rw [if_neg (by omega)]
  simp [actL, List.range_succ, Nat.add_assoc] 
  exact e.symm
theorem actL_head (t : Al) (j : Nat) : (actL t j).getD 0 zAc = actF t j := by simp [actL, List.range_succ]
def tkV (b : Nat) : Value := .func (.func 52) #[.pointer (some ⟨b, 0, none⟩)] #[]
def tkL (bl : Nat → Nat) (k : Nat) : List Value := (List.range k).map fun i => tkV (bl i)
theorem tkL_len (bl : Nat → Nat) (k : Nat) : (tkL bl k).length = k := by simp [tkL]
theorem tkL_step (bl : Nat → Nat) (k S : Nat) : tkL (upf9 bl k S) (k + 1) = tkL bl k ++ [tkV S] := by
  unfold tkL
  rw [List.range_succ, List.map_append, List.map_singleton, upf9_eq]
  congr 1
  refine List.map_congr_left fun i hi => ?_
  rw [upf9_ne _ _ (by have := List.mem_range.1 hi; omega)]
theorem infoTurn : (Try.prog.info? 70).map (fun i => (i.zero, i.size, i.bytes)) = some (some .nilFunc, 1, 8) := by kernel_rfl
theorem wpList_appTk {ops : Array Oper} {rest : List Oper} {o : Oper} {a : Act} {Q : Exit → Act → World → Prop} (w : World) (hgd : o.guard = none) (s x : Operand)
    (ho : o.op = .call { callee := .builtin .append, args := #[s, x], argTypes := #[67, 67] })
    (base : Nat) (v : Value) (k : Nat) (bl : Nat → Nat) (hs : a.eval s = v) (hown : w.ownsRow base 70 1 v k (tkL bl k)) (X O cx S : Nat) (hx : a.eval x = .slice (some ⟨X, O, none⟩) 1 cx) (hc : w.cell? ⟨X, O, none⟩ = some (tkV S)) (hb : base ≤ w.heap.size) (hl : k ≤ 100000)
    (hK : ∀ g cap w', w'.ownsRow base 70 1 (.slice (some ⟨g, 0, none⟩) (k + 1) cap) (k + 1) (tkL (upf9 bl k S) (k + 1)) → w.grownBy w' v.ownBlock → (v.ownBlock = some g ∨ g = w.heap.size) → g < w'.heap.size → wpList Try.prog ops Q rest (a.put o.dst (.slice (some ⟨g, 0, none⟩) (k + 1) cap)) w') : wpList Try.prog ops Q (o :: rest) a w := by
  obtain ⟨i0, hi, hzz⟩ := Option.map_eq_some_iff.1 infoTurn
  simp only [Prod.mk.injEq] at hzz
  obtain ⟨hz0, hz1, hz2⟩ := hzz
  refine wpList_plain hgd fun _ hKK => wp_append_lies w s x 67 ho base 70 i0 _ 1 8 Try.underlying67 hi hz0 hz1 hz2 rfl (by decide) v k (tkL bl k) hs hown ⟨X, O, none⟩ 1 cx [tkV S] hx rfl (fun j u hj => ?_) (fun u hu => by rw [List.mem_singleton.1 hu]; rfl) (by decide) (by unfold maxLen; omega) (by omega) hb _ rfl fun g cap w' h2 h3 h4 h5 => hKK _ _ (hK g cap w' (by rw [tkL_step]; exact h2) h3 h4 h5)
  have : j = 0 := by have := (List.getElem?_eq_some_iff.1 hj).1; simpa using this
  subst this
  rw [WideShapes.add_plain, Nat.add_zero, hc, ← hj]; rfl
theorem rowT_slice {w : World} {base n s : Nat} {e : TypeId} {v : Value} {xs : List Value} (h : w.ownsRow base e s v n xs) : ∃ a cap, v = .slice a n cap := by
  rcases h.2 with ⟨rfl, h0⟩ | ⟨g, cap, cur, rfl, _⟩
  · exact ⟨none, 0, by rw [h0]⟩
  · exact ⟨_, cap, rfl⟩
/-- The sessions and what takes their turns. -/
structure TnI (w wr : World) (k : Nat) (v : Value) (bl : Nat → Nat) (id : Nat → Int) (L : Nat → List Ac) : Prop where
  below : Below w.heap.size w wr
  row : wr.ownsRow w.heap.size 70 1 v k (tkL bl k)
  s : ∀ i, i < k → w.heap.size ≤ bl i ∧ bl i < wr.heap.size ∧ v.ownBlock ≠ some (bl i) ∧ Ses wr (bl i) (id i) (L i)
  ne : ∀ i j, i < k → j < k → i ≠ j → bl i ≠ bl j
theorem TnI.add {w wr W1 W3 : World} {k g c : Nat} {v : Value} {bl : Nat → Nat} {id : Nat → Int} {L : Nat → List Ac} (o : Obj) (h : TnI w wr k v bl id L) (hw : Writes wr.heap.size (wr.heap.size + 1) wr W1) (hs : Ses W1 wr.heap.size (id k) (L k)) (hg : (W1.alloc o).grownBy W3 v.ownBlock)
    (ho : W3.ownsRow w.heap.size 70 1 (.slice (some ⟨g, 0, none⟩) (k + 1) c) (k + 1) (tkL (upf9 bl k wr.heap.size) (k + 1))) (hl : v.ownBlock = some g ∨ g = (W1.alloc o).heap.size) : TnI w W3 (k + 1) (.slice (some ⟨g, 0, none⟩) (k + 1) c) (upf9 bl k wr.heap.size) id L := by
  have hS : wr.heap.size < W1.heap.size := (Array.getElem?_eq_some_iff.1 hs).1
  have hA : (W1.alloc o).heap.size = W1.heap.size + 1 := by simp
  have hgs := hg.size
  have hwb := h.below.size
  have hrow := ownI_lt h.row
  have hbk : ∀ q, q < W1.heap.size → v.ownBlock ≠ some q → W3.heap[q]? = W1.heap[q]? := fun q hq hne => (hg.block q (by omega) (fun e => hne e.symm)).trans ((below_new W1 o).block q hq)
  have hBW : Below w.heap.size w W1 := Writes.below h.below hw hwb
  have hne9 : ∀ q, q < w.heap.size → v.ownBlock ≠ some q := fun q hq e => by have := (hrow q e).1; omega
  refine ⟨⟨?_, ?_, ?_, ?_, fun q hq => ?_⟩, ho, fun i hi => ?_, fun i j hi hj hne => ?_⟩
  · exact hg.os.trans (((below_new W1 o).os).trans hBW.os)
  · exact hg.tape.trans (((below_new W1 o).tape).trans hBW.tape)
  · exact hg.output.trans (((below_new W1 o).output).trans hBW.output)
  · omega
  · rw [hbk q (by omega) (hne9 q hq)]; exact hBW.block q hq
  · by_cases e : i = k
    · subst e
      rw [upf9_eq]
      have hn : v.ownBlock ≠ some wr.heap.size := fun e => by have := (hrow _ e).2; omega
      refine ⟨hwb, by omega, ?_, hs.block (hbk _ hS hn)⟩
      simp only [Value.ownBlock, ne_eq, Option.some.injEq]
      rcases hl with h1 | h1
      · intro e2; exact hn (by rw [h1, e2])
      · omega
    · obtain ⟨k0, k1, k2, k3⟩ := h.s i (by omega)
      rw [upf9_ne _ _ e]
      refine ⟨k0, by omega, ?_, (k3.block (hw.block _ k1 (by omega))).block (hbk _ (by omega) k2)⟩
      simp only [Value.ownBlock, ne_eq, Option.some.injEq]
      rcases hl with h1 | h1
      · intro e2; exact k2 (by rw [h1, e2])
      · omega
  · by_cases e : i = k <;> by_cases e2 : j = k
    · omega
    · rw [e, upf9_eq, upf9_ne _ _ e2]; have := (h.s j (by omega)).2.1; omega
    · rw [e2, upf9_eq, upf9_ne _ _ e]; have := (h.s i (by omega)).2.1; omega
    · rw [upf9_ne _ _ e, upf9_ne _ _ e2]; exact h.ne i j (by omega) (by omega) hne
/-- What a list's acts leave in a new session. -/
theorem acb_acts (w : World) (b off n : Nat) (R : Nat → Ac) (h : ∀ i, i < n → CAc w b (off + i * 4) (R i)) : ∀ j v, (acb ((List.range n).map R))[j]? = some v → w.cell? ⟨b, off + j, none⟩ = some v := by
  intro j v hj
  have hlt : j < n * 4 := by have := (List.getElem?_eq_some_iff.1 hj).1; rw [acb_len] at this; simpa using this
  have hd : j / 4 < n := by omega
  obtain ⟨h0, h1, h2, h3⟩ := h (j / 4) hd
  have hg := acb_get ((List.range n).map R) (j / 4) (j % 4) (R (j / 4)) (by simp [hd]) (by omega)
  rw [show j / 4 * 4 + j % 4 = j by omega, hj] at hg
  have hm : j % 4 = 0 ∨ j % 4 = 1 ∨ j % 4 = 2 ∨ j % 4 = 3 := by omega
  rcases hm with e | e | e | e <;> rw [e] at hg <;> simp [ac4] at hg <;> subst hg
  · rw [show off + j = off + j / 4 * 4 by omega]; exact h0
  · rw [show off + j = off + j / 4 * 4 + 1 by omega]; exact h1
  · rw [show off + j = off + j / 4 * 4 + 2 by omega]; exact h2
  · rw [show off + j = off + j / 4 * 4 + 3 by omega]; exact h3
theorem acb_drop : ∀ (xs : List Ac) (n : Nat), (acb xs).drop (n * 4) = acb (xs.drop n)
  | xs, 0 => by simp
  | [], n + 1 => by simp [acb]
  | x :: xs, n + 1 => by
    have := acb_drop xs n
    simp only [acb, List.drop_succ_cons]
    rw [← this, List.drop_append, List.drop_of_length_le (by simp [ac4]; omega), List.nil_append]
    congr 1
    simp [ac4]; omega
theorem actL_parts (t : Al) (h : t.n ≤ 12) : actL t 0 = (List.range t.n).map t.R ++ (List.replicate 12 zAc).drop t.n := by
  apply List.ext_getElem?
  intro i
  by_cases h1 : i < 12
  · by_cases h2 : i < t.n
    · rw [List.getElem?_append_left (by simpa using h2)]
      simp [actL, h1, h2, actF]
    · rw [List.getElem?_append_right (by simp; omega), List.getElem?_drop, List.getElem?_replicate, if_pos (by simp; omega)]
      simp [actL, h1, actF, h2]
  · rw [List.getElem?_eq_none (by simp [actL]; omega), List.getElem?_eq_none (by simp; omega)]
theorem copy_acts (W : World) (S : Nat) (t : Al) (a0 : Option Addr) (c0 : Nat) (ht : t.n ≤ 12) (hs : Ses W S 0 (List.replicate 12 zAc)) (h : AcsAt W a0 t.n t.R) :
    ∃ W1, (∀ ty, (Builtin.copy_ #[42, 42] ty #[.slice (some ⟨S, 1, none⟩) 12 12, .slice a0 t.n c0]).run Try.prog W = .ok (goInt t.n) W1) ∧ Ses W1 S 0 (actL t 0) ∧ Writes S (S + 1) W W1 := by
  have key : ∀ (ad : Addr), (∀ j v, (acb ((List.range t.n).map t.R))[j]? = some v → W.cell? (ad.add j) = some v) → ∃ W1, (∀ ty, (Builtin.copy_ #[42, 42] ty #[.slice (some ⟨S, 1, none⟩) 12 12, .slice (some ad) t.n c0]).run Try.prog W = .ok (goInt t.n) W1) ∧ Ses W1 S 0 (actL t 0) ∧ Writes S (S + 1) W W1 := fun ad hc => by
    have el : (acb ((List.range t.n).map t.R)).length = t.n * 4 := by rw [acb_len]; simp
    have hmin : Nat.min t.n 12 = t.n := Nat.min_eq_left ht
    obtain ⟨W1, hW1⟩ : ∃ W1, W1 = W.setRow S ((sesL 0 (List.replicate 12 zAc)).toArray.toList.take 1 ++ acb ((List.range t.n).map t.R) ++ (sesL 0 (List.replicate 12 zAc)).toArray.toList.drop (1 + (acb ((List.range t.n).map t.R)).length)).toArray := ⟨_, rfl⟩
    refine ⟨W1, fun ty => ?_, ?_, ?_⟩
    · have h := run_copy_rowS (P := Try.prog) W 42 42 ty 53 4 S 1 12 12 ad t.n c0 (sesL 0 (List.replicate 12 zAc)).toArray 81 (acb ((List.range t.n).map t.R)) Try.underlying42 infoA5 hs (by rw [el, hmin]) hc (by rw [el]; simp [sesL, acb_len]; omega) (acb_one _)
      rw [hmin] at h
      rw [hW1]
      exact h
    · have h := setRow_heap W S _ ((sesL 0 (List.replicate 12 zAc)).toArray.toList.take 1 ++ acb ((List.range t.n).map t.R) ++ (sesL 0 (List.replicate 12 zAc)).toArray.toList.drop (1 + (acb ((List.range t.n).map t.R)).length)).toArray _ _ hs
      unfold Ses
      rw [hW1, h]
      congr 3
      show (sesL 0 (List.replicate 12 zAc)).take 1 ++ acb ((List.range t.n).map t.R) ++ (sesL 0 (List.replicate 12 zAc)).drop (1 + (acb ((List.range t.n).map t.R)).length) = sesL 0 (actL t 0)
      rw [el, actL_parts t ht, show 1 + t.n * 4 = t.n * 4 + 1 by omega]
      show ([Value.int .i64 0] ++ acb ((List.range t.n).map t.R)) ++ (acb (List.replicate 12 zAc)).drop (t.n * 4) = Value.int .i64 0 :: acb ((List.range t.n).map t.R ++ (List.replicate 12 zAc).drop t.n)
      rw [acb_drop, acb_app]
      rfl
    · rw [hW1]; refine ⟨rfl, rfl, rfl, by simp, fun q hq hd => setRow_other _ _ _ _ (by omega)⟩
  rcases h with h | ⟨b, off, rfl, hl, hc⟩
  · cases a0 with
    | some ad => exact key ad fun j v hj => by rw [h] at hj; simp [acb] at hj
    | none =>
      refine ⟨W, fun ty => ?_, ?_, Writes.refl _ _ _⟩
      · have hi : ∃ i0, Try.prog.info? 53 = some i0 := by
          have := infoA5
          cases hq : Try.prog.info? 53 with
          | none => rw [hq] at this; cases this
          | some i => exact ⟨i, rfl⟩
        obtain ⟨i0, hi⟩ := hi
        rw [h]
        simp [Builtin.copy_, run_underlying Try.underlying42, Builtin.lenOf, Builtin.firstCells, sizeOf, typeInfo, hi, storeCells]
      · have e : actL t 0 = List.replicate 12 zAc := by rw [actL_parts t ht, h]; rfl
        rw [e]; exact hs
  · exact key _ fun j v hj => by rw [WideShapes.add_plain]; exact acb_acts W b off t.n t.R hc j v hj
set_option maxHeartbeats 4000000 in
theorem turnsOf_any (n : Nat) (T : Nat → Al) (a : Option Addr) (cap : Nat) (w : World) (hn : n ≤ 5) (hL : ∀ i, i < n → (T i).n ≤ 12) (h : AlsAt w a n T) :
    Calls Try.prog 45 #[.slice a n cap] w fun e w' => ∃ v bl, e = .returned v ∧ TnI w w' n v bl (fun _ => 0) (fun i => actL (T i) 0) := by
  have HA : Hid (AlsAt w a n T) := h
  have HL : Hid (∀ i, i < n → (T i).n ≤ 12) := hL
  have hmf : ∀ (fn : Fn) (first cap : Array Value) (w : World), (Instr.makeFunc fn first cap).run Try.prog w = .ok (.func fn first cap) w := fun _ _ _ _ => rfl
  clear h hL
  go_enter Try.func45, Try.ntmps45
  go_wp2_with fail
  go_loopw [3, 5, 6, 9] (fun v _ _ i wr => ∃ k : Nat, ∃ u bl, k ≤ n ∧ i = .int .i64 k ∧ v = u ∧ Hid (TnI w wr k u bl (fun _ => 0) (fun i => actL (T i) 0))) (fun _ _ _ i _ => n - (intOf i).toNat)
  case atStart => exact ⟨0, _, fun _ => 0, Nat.zero_le _, rfl, rfl, ⟨Below.refl _ _, World.ownsRow_nil _ _ _ _, fun i hi => by omega, fun i j hi => by omega⟩⟩
  case round =>
    obtain ⟨k, vv, bl, hk, rfl, rfl, HT⟩ := hrel
    obtain ⟨va, vc, hvv⟩ := rowT_slice HT.out.row
    subst hvv
    by_cases hlt : k < n
    · have hlt' : (k : Int) < (n : Int) := by omega
      have hk0 : (0 : Int) ≤ (k : Int) := by omega
      rcases HA.out.below HT.out.below with h | ⟨ba, oa, rfl, hla, hca⟩
      · omega
      obtain ⟨a0, c0, y0, y1, y2⟩ := hca k hlt
      obtain ⟨W0, hW0⟩ : ∃ W0, W0 = wr.alloc (.cells #[.int .i64 0, .int .i64 0, .int .i64 0, .int .i64 0, .int .i64 0, .int .i64 0, .int .i64 0, .int .i64 0, .int .i64 0, .int .i64 0, .int .i64 0, .int .i64 0, .int .i64 0, .int .i64 0, .int .i64 0, .int .i64 0, .int .i64 0, .int .i64 0, .int .i64 0, .int .i64 0, .int .i64 0, .int .i64 0, .int .i64 0, .int .i64 0, .int .i64 0, .int .i64 0, .int .i64 0, .int .i64 0, .int .i64 0, .int .i64 0, .int .i64 0, .int .i64 0, .int .i64 0, .int .i64 0, .int .i64 0, .int .i64 0, .int .i64 0, .int .i64 0, .int .i64 0, .int .i64 0, .int .i64 0, .int .i64 0, .int .i64 0, .int .i64 0, .int .i64 0, .int .i64 0, .int .i64 0, .int .i64 0, .int .i64 0] 81) := ⟨_, rfl⟩
      have hs0 : Ses W0 wr.heap.size 0 (List.replicate 12 zAc) := by
        rw [hW0]
        show (wr.heap.push _)[wr.heap.size]? = _
        rw [Array.getElem?_push_size]
        rfl
      obtain ⟨W1, hcp, hs1, hw1⟩ := copy_acts W0 wr.heap.size (T k) a0 c0 (HL.out k hlt) hs0 (y1.below (by rw [hW0]; exact below_new _ _))
      have HW1 : Hid (Writes wr.heap.size (wr.heap.size + 1) wr W1) := (Writes.of_below (by rw [hW0]; exact below_new _ _)).trans hw1
      have HS1 : Hid (Ses W1 wr.heap.size 0 (actL (T k) 0)) := hs1
      have HBS : Hid (w.heap.size ≤ W1.heap.size) := by have h1 := HT.out.below.size; have h2 := HW1.out.size; show _ ≤ _; omega
      have HRW : Hid (∀ o : Obj, (W1.alloc o).ownsRow w.heap.size 70 1 (.slice va k vc) k (tkL bl k)) := fun o => by
        refine ownI_keep HT.out.row fun q hq => ?_
        have hq2 := (ownI_lt HT.out.row q hq).2
        have hs := HW1.out.size
        rw [(below_new W1 o).block q (by omega)]
        exact HW1.out.block q hq2 (by omega)
      rw [hW0] at hcp
      clear hca hW0 hs0 hs1 hw1 y1
      go_wp2_with (at_builtin; first | (refine wpList_copy_runI _ rfl _ _ 42 42 rfl _ _ rfl rfl (hcp _) ?_) | (refine wpList_appTk _ rfl (.tmp 20) (.tmp 23) rfl w.heap.size (.slice va k vc) k bl rfl (HRW.out _) W1.heap.size 0 1 wr.heap.size rfl (by simp [go_sem, tkV]) (by have h := HBS.out; simp; omega) (by omega) ?_))
      intro g c W3 ho hg hl hlt3
      have HT3 : Hid (TnI w W3 (k + 1) (.slice (some ⟨g, 0, none⟩) (k + 1) c) (upf9 bl k wr.heap.size) (fun _ => 0) (fun i => actL (T i) 0)) := TnI.add _ HT.out HW1.out HS1.out hg ho (hl.imp id fun h => by simpa using h)
      clear ho hg hl hcp
      go_wp2_with fail
      go_roundw
      case rel => exact ⟨k + 1, _, _, hlt, by go_num, rfl, HT3⟩
      case measure => first | (simp [intOf]; done) | (simp [intOf]; omega)
    · obtain rfl : k = n := by omega
      have hnl : ¬ ((k : Int) < (k : Int)) := by omega
      go_wp2_with fail
      go_ret
      exact ⟨_, rfl, bl, HT.out⟩
end Go.Proofs.Ytcfenhnggccmmaa
