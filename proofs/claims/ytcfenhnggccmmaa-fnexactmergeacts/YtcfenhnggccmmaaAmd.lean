/- A session of the program: its block; what it does when it is picked. -/
import Derived.Test.YtcfenhnggccmmaaAmb
import Derived.Laws.CopyRow
import Derived.Lib.SliceRun
import Derived.Shelf.Spec.SlicesInsertGrow
import Derived.Shelf.RegionOpen
namespace Go.Proofs.Ytcfenhnggccmmaa
open Go.ChangeShapes Go.WideShapes Go.ChangeAt Go.RowKit Go.Deep Go.Joins Go.Shelf
set_option linter.unusedVariables false
set_option linter.unusedSimpArgs false
set_option maxRecDepth 20000

/-- copy into a block of one's own, elements of k cells. -/
theorem run_copy_rowS {P : Program} (w : World) (dT sT ty elem : TypeId) (k : Nat) (g o dLen dCap : Nat) (a : Addr) (sLen sCap : Nat) (cur : Array Value) (t : TypeId) (cs : List Value)
    (hu : P.underlying dT = some (.slice elem)) (hs : (P.info? elem).map (·.size) = some k)
    (hg : w.heap[g]? = some (.cells cur t (0, 0))) (hn : cs.length = Nat.min sLen dLen * k)
    (hsrc : ∀ j v, cs[j]? = some v → w.cell? (a.add j) = some v) (hfit : o + cs.length ≤ cur.size) (h1 : ∀ v ∈ cs, v.oneCell' = true) :
    (Builtin.copy_ #[dT, sT] ty #[.slice (some ⟨g, o, none⟩) dLen dCap, .slice (some a) sLen sCap]).run P w =
      .ok (goInt (Nat.min sLen dLen)) (w.setRow g (cur.toList.take o ++ cs ++ cur.toList.drop (o + cs.length)).toArray) := by
  have hl := run_loadCells_list (P := P) w a cs hsrc
  have hst := run_storeCells_at P g o t cs 0 cur w hg (by simpa using hfit) h1
  cases hq : P.info? elem with
  | none => simp [hq] at hs
  | some i =>
    have hi : i.size = k := by simpa [hq] using hs
    simp [Builtin.copy_, run_underlying hu, Builtin.lenOf, Builtin.firstCells, sizeOf, typeInfo, hq, hi, ← hn, hl, hst]
/-- What a session holds: its number, its acts. -/
def sesL (id : Int) (L : List Ac) : List Value := Value.int .i64 id :: acb L
def Ses (w : World) (b : Nat) (id : Int) (L : List Ac) : Prop := w.heap[b]? = some (.cells (sesL id L).toArray 81 (0, 0))
theorem Ses.cell {w : World} {b : Nat} {id : Int} {L : List Ac} (h : Ses w b id L) (j : Nat) (v : Value) (hj : (sesL id L)[j]? = some v) : w.cell? ⟨b, j, none⟩ = some v := by
  unfold Ses at h
  simp only [World.cell?, h]
  simpa using hj
theorem Ses.frozen {w : World} {b : Nat} {id : Int} {L : List Ac} (h : Ses w b id L) (j : Nat) : w.frozen? ⟨b, j, none⟩ = false := by
  unfold Ses at h
  simp [World.frozen?, h]
theorem Ses.block {w w' : World} {b : Nat} {id : Int} {L : List Ac} (h : Ses w b id L) (e : w'.heap[b]? = w.heap[b]?) : Ses w' b id L := e.trans h
theorem Ses.set0 {w : World} {b : Nat} {id : Int} {L : List Ac} (h : Ses w b id L) (z : Int) : Ses (w.setCell ⟨b, 0, none⟩ (.int .i64 z)) b z L := by
  obtain ⟨hl, hg⟩ := Array.getElem?_eq_some_iff.1 h
  unfold Ses
  rw [Array.getElem?_eq_some_iff]
  refine ⟨by simpa [World.setCell] using hl, ?_⟩
  simp only [World.setCell]
  rw [Array.getElem_modify]
  simp [hg, sesL]
theorem zeroAct (w : World) : (zeroValue 53).run Try.prog w = .ok (.agg #[.int .i64 0, .int .i64 0, .int .i64 0, .int .i64 0]) w := by kernel_rfl
/-- The built-in clear of one act in a block of one's own. -/
theorem run_clear_act (w : World) (ty : TypeId) (g o c : Nat) (cur : Array Value) (t : TypeId) (hg : w.heap[g]? = some (.cells cur t (0, 0))) (hfit : o + 4 ≤ cur.size) :
    (Builtin.clear_ #[42] ty #[.slice (some ⟨g, o, none⟩) 1 c]).run Try.prog w = .ok (.tuple #[]) (w.setRow g (cur.toList.take o ++ acb [zAc] ++ cur.toList.drop (o + 4)).toArray) := by
  have hst := run_storeCells_at Try.prog g o t (acb [zAc]) 0 cur w hg (by simpa [acb, ac4] using hfit) (acb_one _)
  have hz : (Builtin.zeroCells (Value.cells (.agg #[.int .i64 0, .int .i64 0, .int .i64 0, .int .i64 0])) 1).toList = acb [zAc] := by simp [Builtin.zeroCells, Value.cells, acb, ac4, zAc]; kernel_rfl
  simp [Builtin.clear_, run_underlying Try.underlying42, zeroAct, hz, hst]
  simp [acb, ac4]
theorem ses_shift (id : Int) (L : List Ac) (hL : L.length = 12) : (((sesL id L).take 1 ++ acb (L.drop 1) ++ (sesL id L).drop (1 + 44)).take 45 ++ acb [zAc] ++ ((sesL id L).take 1 ++ acb (L.drop 1) ++ (sesL id L).drop (1 + 44)).drop (45 + 4)) = sesL id (L.drop 1 ++ [zAc]) := by
  have e1 : (acb (L.drop 1)).length = 44 := by rw [acb_len, List.length_drop, hL]
  have e0 : (sesL id L).take 1 = [Value.int .i64 id] := rfl
  have e2 : ((sesL id L).drop (1 + 44)).length = 4 := by rw [List.length_drop]; simp [sesL, acb_len, hL]
  rw [e0]
  have a1 : ([Value.int .i64 id] ++ acb (L.drop 1) ++ (sesL id L).drop (1 + 44)).take 45 = [Value.int .i64 id] ++ acb (L.drop 1) := by
    rw [List.take_append_of_le_length (by simp only [List.length_append, e1, List.length_singleton]; omega), List.take_of_length_le (by simp only [List.length_append, e1, List.length_singleton]; omega)]
  have a2 : ([Value.int .i64 id] ++ acb (L.drop 1) ++ (sesL id L).drop (1 + 44)).drop (45 + 4) = [] := by
    apply List.drop_eq_nil_of_le
    simp only [List.length_append, e1, e2, List.length_singleton]
    omega
  rw [a1, a2, List.append_nil, sesL, acb_app]
  rfl
theorem ses_mid_size (id : Int) (L : List Ac) (hL : L.length = 12) : ((sesL id L).take 1 ++ acb (L.drop 1) ++ (sesL id L).drop (1 + 44)).length = 49 := by
  have e1 : (acb (L.drop 1)).length = 44 := by rw [acb_len, List.length_drop, hL]
  have e2 : ((sesL id L).drop (1 + 44)).length = 4 := by rw [List.length_drop]; simp [sesL, acb_len, hL]
  simp only [List.length_append, e1, e2, List.length_take]
  simp [sesL]
theorem infoA5 : (Try.prog.info? 53).map (·.size) = some 4 := by kernel_rfl
/-- What a picked session answers. -/
def takeV (id : Int) (L : List Ac) : Ac := if id = 0 then ⟨1, 0, 0, 0⟩ else ⟨(L.getD 0 zAc).k, id, (L.getD 0 zAc).y, (L.getD 0 zAc).o⟩
def takeId (id num : Int) : Int := if id = 0 then num else id
def takeL (id : Int) (L : List Ac) : List Ac := if id = 0 then L else L.drop 1 ++ [zAc]
def TakeR (b : Nat) (id num : Int) (L : List Ac) (w : World) (e : Ending) (w' : World) : Prop :=
  e = .returned (.agg #[.int .i64 (takeV id L).k, .int .i64 (takeV id L).t, .int .i64 (takeV id L).y, .int .i64 (takeV id L).o]) ∧ Ses w' b (takeId id num) (takeL id L) ∧ Writes b (b + 1) w w'
set_option maxHeartbeats 4000000 in
theorem take_any (b : Nat) (id num : Int) (L : List Ac) (w : World) (hL : L.length = 12) (h : Ses w b id L) :
    Calls Try.prog 52 #[.pointer (some ⟨b, 0, none⟩), .int .i64 num] w (TakeR b id num L w) := by
  have hbl : b < w.heap.size := (Array.getElem?_eq_some_iff.1 h).1
  have HS : Hid (Ses w b id L) := h
  clear h
  by_cases hz : id = 0
  · have hz2 : (id == 0) = true := by simp [hz]
    have HF : Hid (∀ w', Ses w' b num L → Writes b (b + 1) w w' → TakeR b id num L w (.returned (.agg #[.int .i64 1, .int .i64 0, .int .i64 0, .int .i64 0])) w') := fun w' h1 h2 => by
      unfold TakeR takeV takeId takeL
      rw [if_pos hz, if_pos hz, if_pos hz]
      exact ⟨rfl, h1, h2⟩
    have c0 := cell_alloc (HS.out.cell 0 _ rfl) (.cells #[.int .i64 0, .int .i64 0, .int .i64 0, .int .i64 0] 53)
    have f0 : (w.alloc (.cells #[.int .i64 0, .int .i64 0, .int .i64 0, .int .i64 0] 53)).frozen? ⟨b, 0, none⟩ = false := by rw [World.frozen?_of_block (w := w) (a := ⟨b, 0, none⟩) ((below_new w _).block b hbl)]; exact HS.out.frozen 0
    clear hz
    go_enter Try.func52, Try.ntmps52
    go_wp2_with fail
    refine bodyPost_ret (v := .agg #[.int .i64 1, .int .i64 0, .int .i64 0, .int .i64 0]) (by simp [results, Try.results52, go_sem, *]) rfl ?_
    have hw := Writes.setCell (Writes.refl b (b + 1) w) (p := ⟨b, 0, none⟩) (Nat.le_refl _) (Nat.lt_succ_self _) (.int .i64 num)
    refine HF.out _ ?_ (hw.alloc _)
    exact (HS.out.set0 num).block ((below_new _ _).block b (by simpa [World.setCell] using hbl))
  · have hz2 : (id == 0) = false := by simp [hz]
    obtain ⟨r, L', rfl⟩ : ∃ r L', L = r :: L' := by
      cases L with
      | nil => simp at hL
      | cons r L' => exact ⟨r, L', rfl⟩
    have HF : Hid (∀ w', Ses w' b id (L' ++ [zAc]) → Writes b (b + 1) w w' → TakeR b id num (r :: L') w (.returned (.agg #[.int .i64 r.k, .int .i64 id, .int .i64 r.y, .int .i64 r.o])) w') := fun w' h1 h2 => by
      unfold TakeR takeV takeId takeL
      rw [if_neg hz, if_neg hz, if_neg hz]
      exact ⟨rfl, h1, h2⟩
    have bb : ∀ (o1 : Obj), Below w.heap.size w (w.alloc o1) := fun o1 => below_new _ _
    have bc : ∀ (o1 o2 : Obj), Below w.heap.size w ((w.alloc o1).alloc o2) := fun o1 o2 => (bb o1).alloc (by simp) _
    have c0 := fun o1 o2 => cell_alloc (cell_alloc (HS.out.cell 0 _ rfl) o1) o2
    have c1 := fun o1 => cell_alloc (HS.out.cell 1 _ rfl) o1
    have c2 := fun o1 => cell_alloc (HS.out.cell 2 _ rfl) o1
    have c3 := fun o1 => cell_alloc (HS.out.cell 3 _ rfl) o1
    have c4 := fun o1 => cell_alloc (HS.out.cell 4 _ rfl) o1
    have c5 := cell_alloc (HS.out.cell 0 _ rfl) (.cells #[.int .i64 0, .int .i64 0, .int .i64 0, .int .i64 0] 53)
    clear hz
    go_enter Try.func52, Try.ntmps52
    go_wp2_with fail
    have hL' : L'.length = 11 := by simpa using hL
    obtain ⟨W, hW⟩ : ∃ W, W = (w.alloc (.cells #[.int .i64 0, .int .i64 0, .int .i64 0, .int .i64 0] 53)).alloc (.cells #[.int .i64 r.k, .int .i64 id, .int .i64 r.y, .int .i64 r.o] 53) := ⟨_, rfl⟩
    have HBW : Hid (Below w.heap.size w W) := by rw [hW]; exact bc _ _
    have HX : Hid (CAc W (w.heap.size + 1) 0 ⟨r.k, id, r.y, r.o⟩) := by rw [hW]; simp [CAc, go_sem, Hid]
    have HR : Hid (CAc W w.heap.size 0 zAc) := by rw [hW]; simp [CAc, go_sem, zAc, Hid]
    have HFZ : Hid (∀ o, W.frozen? ⟨w.heap.size, o, none⟩ = false) := by rw [hW]; intro o; simp [go_sem]
    rw [← hW]
    clear hW bb bc c0 c1 c2 c3 c4 c5
    have HSW : Ses W b id (r :: L') := HS.out.block (HBW.out.block b hbl)
    obtain ⟨cur1, hc1⟩ : ∃ cur1, cur1 = ((sesL id (r :: L')).take 1 ++ acb L' ++ (sesL id (r :: L')).drop (1 + 44)).toArray := ⟨_, rfl⟩
    have hcp : ∀ ty dc sc, (Builtin.copy_ #[42, 42] ty #[.slice (some ⟨b, 1, none⟩) 12 dc, .slice (some ⟨b, 5, none⟩) 11 sc]).run Try.prog W.drew = .ok (goInt 11) (W.drew.setRow b cur1) := fun ty dc sc => by
      have h := run_copy_rowS (P := Try.prog) W.drew 42 42 ty 53 4 b 1 12 dc ⟨b, 5, none⟩ 11 sc (sesL id (r :: L')).toArray 81 (acb L') Try.underlying42 infoA5 HSW (by rw [acb_len, hL']; rfl) (fun j v hj => ?_) (by simp [sesL, acb_len, hL', acb, ac4]) (acb_one _)
      · have e44 : (acb L').length = 44 := by rw [acb_len, hL']
        rw [e44] at h
        rw [hc1]
        exact h
      · rw [WideShapes.add_plain]
        show World.cell? W _ = _
        refine HSW.cell _ _ ?_
        rw [← hj]
        simp only [sesL, acb, ac4]
        rw [show 5 + j = j + 1 + 1 + 1 + 1 + 1 by omega]
        rfl
    obtain ⟨W1, hW1⟩ : ∃ W1, W1 = W.drew.setRow b cur1 := ⟨_, rfl⟩
    have hg1 : W1.heap[b]? = some (.cells cur1 81 (0, 0)) := by rw [hW1]; exact setRow_heap W.drew b _ _ _ _ HSW
    have hs1 : cur1.size = 49 := by rw [hc1]; simpa using ses_mid_size id (r :: L') hL
    have hcl : ∀ ty c, (Builtin.clear_ #[42] ty #[.slice (some ⟨b, 45, none⟩) 1 c]).run Try.prog W1 = .ok (.tuple #[]) (W1.setRow b (sesL id (L' ++ [zAc])).toArray) := fun ty c => by
      have h := run_clear_act W1 ty b 45 c cur1 81 hg1 (by rw [hs1]; decide)
      have e := ses_shift id (r :: L') hL
      rw [show (r :: L').drop 1 = L' from rfl] at e
      rw [hc1] at h
      rw [e] at h
      exact h
    rw [← hW1] at hcp
    obtain ⟨W2, hW2⟩ : ∃ W2, W2 = W1.setRow b (sesL id (L' ++ [zAc])).toArray := ⟨_, rfl⟩
    have HS2 : Hid (Ses W2 b id (L' ++ [zAc])) := by rw [hW2]; exact setRow_heap W1 b _ _ _ _ hg1
    have HO2 : Hid (∀ q, q ≠ b → W2.heap[q]? = W.heap[q]?) := by
      intro q hq
      rw [hW2, setRow_other _ _ _ _ hq, hW1, setRow_other _ _ _ _ hq]
      rfl
    have HW2 : Hid (Writes b (b + 1) w W2) := by
      have h1 := HBW.out
      refine ⟨?_, ?_, ?_, ?_, fun q hq hd => ?_⟩
      · rw [hW2, hW1]; exact h1.os
      · rw [hW2, hW1]; exact h1.tape
      · rw [hW2, hW1]; exact h1.output
      · rw [hW2, hW1]; simpa using h1.size
      · rw [HO2.out q (by omega)]; exact h1.block q hq
    rw [← hW2] at hcl
    have hq1 : w.heap.size + 1 ≠ b := by omega
    have hq0 : w.heap.size ≠ b := by omega
    have k0 := (World.cell?_of_block (w := W) (a := ⟨w.heap.size + 1, 0, none⟩) (HO2.out _ hq1)).trans HX.out.1
    have k1 := (World.cell?_of_block (w := W) (a := ⟨w.heap.size + 1, 1, none⟩) (HO2.out _ hq1)).trans HX.out.2.1
    have k2 := (World.cell?_of_block (w := W) (a := ⟨w.heap.size + 1, 2, none⟩) (HO2.out _ hq1)).trans HX.out.2.2.1
    have k3 := (World.cell?_of_block (w := W) (a := ⟨w.heap.size + 1, 3, none⟩) (HO2.out _ hq1)).trans HX.out.2.2.2
    have r0 := (World.cell?_of_block (w := W) (a := ⟨w.heap.size, 0, none⟩) (HO2.out _ hq0)).trans HR.out.1
    have r1 := (World.cell?_of_block (w := W) (a := ⟨w.heap.size, 1, none⟩) (HO2.out _ hq0)).trans HR.out.2.1
    have r2 := (World.cell?_of_block (w := W) (a := ⟨w.heap.size, 2, none⟩) (HO2.out _ hq0)).trans HR.out.2.2.1
    have r3 := (World.cell?_of_block (w := W) (a := ⟨w.heap.size, 3, none⟩) (HO2.out _ hq0)).trans HR.out.2.2.2
    have rf : ∀ o, W2.frozen? ⟨w.heap.size, o, none⟩ = false := fun o => (World.frozen?_of_block (w := W) (a := ⟨w.heap.size, o, none⟩) (HO2.out _ hq0)).trans (HFZ.out o)
    clear hc1 hW1 hW2 hg1 hs1 HSW HO2
    have hmx : Try.prog.follows .mixedOrders = true := by kernel_rfl
    go_region_law_o (refine step_copy_runI rfl _ _ 42 42 rfl _ _ (by simp [Act.eval, Act.put]) (by simp [Act.eval, Act.put]) (hcp _ _ _) ?_)
    all_goals
      go_wp2_with (simp only [hcl])
      refine bodyPost_ret (v := .agg #[.int .i64 r.k, .int .i64 id, .int .i64 r.y, .int .i64 r.o]) (by simp [results, Try.results52, go_sem, *]) rfl ?_
      have h := setAc_writes (r := ⟨r.k, id, r.y, r.o⟩) (o := 0) (Writes.refl w.heap.size (w.heap.size + 1) W2) (Nat.le_refl _) (Nat.lt_succ_self _)
      have hF : Writes b (b + 1) w (setAc W2 w.heap.size 0 ⟨r.k, id, r.y, r.o⟩) := ⟨h.os.trans HW2.out.os, h.tape.trans HW2.out.tape, h.output.trans HW2.out.output, Nat.le_trans HW2.out.size h.size, fun q hq hd => (h.block q (Nat.lt_of_lt_of_le hq HW2.out.size) (by omega)).trans (HW2.out.block q hq hd)⟩
      exact HF.out _ (HS2.out.block (h.block b (Nat.lt_of_lt_of_le hbl HW2.out.size) (by omega))) hF
end Go.Proofs.Ytcfenhnggccmmaa
