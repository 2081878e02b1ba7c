/- Views: what is asked of a chain and a view; both MayWrites. -/
import Derived.Test.YtjdodbiphijjgaaGreatQRsa
import Derived.Shelf.Spec.SlicesInsertGrow
import Derived.Deep.AppendLies
import Derived.Shelf.RegionOpen
import Derived.Test.YtjdodbiphijjgaaGreatQEe
namespace Go.Proofs.YtjdodbiphijjgaaGreat
open Go.RowKit Go.Deep Go.Shelf Go.Lib
set_option linter.unusedVariables false
set_option linter.unusedSimpArgs false
set_option maxRecDepth 20000
open Go.ChangeShapes Go.WideShapes Go.ChangeAt Go.RowKit Go.Deep Go.Joins
open Go.RowKit Go.Deep Go.Shelf
open Go.RowKit Go.Deep

/-- copy into a block of one's own, elements of k cells. -/
theorem run_copy_rowK {P : Program} (w : World) (dT sT ty elem : TypeId) (k : Nat) (g o dLen dCap : Nat) (a : Addr) (sLen sCap : Nat) (cur : Array Value) (t : TypeId) (cs : List Value)
    (hu : P.underlying dT = some (.slice elem)) (hs : (P.info? elem).map (·.size) = some k)
    (hg : w.heap[g]? = some (.cells cur t (0, 0))) (hn : cs.length = Nat.min sLen dLen * k)
    (hsrc : ∀ j v, cs[j]? = some v → w.cell? (a.add j) = some v) (hfit : o + cs.length ≤ cur.size) (h1 : ∀ v ∈ cs, v.oneCell' = true) :
    (Builtin.copy_ #[dT, sT] ty #[.slice (some ⟨g, o, none⟩) dLen dCap, .slice (some a) sLen sCap]).run P w =
      .ok (goInt (Nat.min sLen dLen)) (w.setRow g (cur.toList.take o ++ cs ++ cur.toList.drop (o + cs.length)).toArray) := by
  have hl := run_loadCells_list (P := P) w a cs hsrc
  have hst := run_storeCells_at P g o t cs 0 cur w hg (by simpa using hfit) h1
  cases hq : P.info? elem with
  | none => simp [hq] at hs
  | some i =>
    have hi : i.size = k := by simpa [hq] using hs
    simp [Builtin.copy_, run_underlying hu, Builtin.lenOf, Builtin.firstCells, sizeOf, typeInfo, hq, hi, ← hn, hl, hst]

/-- What stands where one more has been put in. -/
def insL (xs ys : List Value) (i : Nat) : List Value := xs.take (i * 2) ++ ys ++ xs.drop (i * 2)
theorem insL_len (xs ys : List Value) (i : Nat) (h : i * 2 ≤ xs.length) : (insL xs ys i).length = xs.length + ys.length := by
  simp only [insL, List.length_append, List.length_take, List.length_drop]
  omega
def InsA (w : World) (base : Nat) (v : Value) (n : Nat) (zs : List Value) (e : Ending) (w' : World) : Prop :=
  ∃ g cap, e = .returned (.slice (some ⟨g, 0, none⟩) (n + 1) cap) ∧ w'.ownsRow base 173 2 (.slice (some ⟨g, 0, none⟩) (n + 1) cap) (n + 1) zs ∧ w.grownBy w' v.ownBlock ∧ (v.ownBlock = some g ∨ g = w.heap.size) ∧ g < w'.heap.size

set_option maxHeartbeats 4000000 in
theorem insRw_end (w : World) (base n vb vc : Nat) (v : Value) (xs ys : List Value) (hown : w.ownsRow base 173 2 v n xs) (hbase : base ≤ w.heap.size) (hn : n ≤ 1000)
    (hy : ys.length = 2) (hys : ∀ j u, ys[j]? = some u → w.cell? ⟨vb, j, none⟩ = some u) (h1 : ∀ u ∈ ys, u.oneCell' = true) :
    Calls Tryz.prog 182 #[v, .int .i64 n, .slice (some ⟨vb, 0, none⟩) 1 vc] w (InsA w base v n (insL xs ys n)) := by
  obtain ⟨i0, hi, hz0, hz1, hz2⟩ := info_parts2 infoRw
  obtain ⟨g, cap, w1, hr, hown1, hg1, hl1, hlt1⟩ := run_append_lies (P := Tryz.prog) w 28 28 base 173 i0 _ 2 32 Tryz.underlying28 hi hz0 hz1 hz2 rfl (by decide) v n xs hown ⟨vb, 0, none⟩ 1 vc ys (by rw [hy]) (fun j u hj => by rw [WideShapes.add_plain, Nat.zero_add]; exact hys j u hj) h1 (by decide) (by unfold maxLen; omega) (by omega) hbase w.heap.size rfl
  have hxs : insL xs ys n = xs ++ ys := by
    have hl := hown.1
    unfold insL
    rw [List.take_of_length_le (by omega), List.drop_eq_nil_of_le (by omega), List.append_nil]
  have HF : Hid (InsA w base v n (insL xs ys n) (.returned (.slice (some ⟨g, 0, none⟩) (n + 1) cap)) w1) := ⟨g, cap, rfl, by rw [hxs]; exact hown1, hg1, hl1, hlt1⟩
  have hcap : v = .slice none 0 0 ∧ n = 0 ∨ ∃ g0 c0, v = .slice (some ⟨g0, 0, none⟩) n c0 ∧ n ≤ c0 ∧ c0 ≤ 9223372036854775807 := by
    rcases hown.2 with h | ⟨g0, c0, cur, e, _, _, k1, k2, _⟩
    · exact .inl h
    · exact .inr ⟨g0, c0, e, k1, by unfold maxLen at k2; omega⟩
  clear hown1 hg1 hl1 hlt1 hxs hown hys h1 hi hz0 hz1 hz2 hbase
  rcases hcap with ⟨rfl, rfl⟩ | ⟨g0, c0, rfl, k1, k2⟩
  · go_enter Tryz.func182, Tryz.ntmps182
    go_wp2_with (at_builtin; refine Lib.wpList_append_run _ rfl _ _ _ _ rfl _ _ rfl rfl _ _ hr ?_)
    go_ret
    exact HF.out
  · go_enter Tryz.func182, Tryz.ntmps182
    go_wp2_with (at_builtin; refine Lib.wpList_append_run _ rfl _ _ _ _ rfl _ _ rfl rfl _ _ hr ?_)
    all_goals (go_ret; exact HF.out)

theorem ins_room (L xs ys : List Value) (n i : Nat) (hi : i < n) (hL : (n + 1) * 2 ≤ L.length) (hx : L.take (n * 2) = xs) (hy : ys.length = 2) :
    (((L.take ((i + 1) * 2) ++ xs.drop (i * 2) ++ L.drop ((i + 1) * 2 + (xs.drop (i * 2)).length)).take (i * 2) ++ ys ++ (L.take ((i + 1) * 2) ++ xs.drop (i * 2) ++ L.drop ((i + 1) * 2 + (xs.drop (i * 2)).length)).drop (i * 2 + ys.length)).take ((n + 1) * 2)) = insL xs ys i := by
  have hxl : xs.length = n * 2 := by rw [← hx, List.length_take]; omega
  have e1 : (L.take ((i + 1) * 2)).length = (i + 1) * 2 := by rw [List.length_take]; omega
  have e2 : (xs.drop (i * 2)).length = n * 2 - i * 2 := by rw [List.length_drop, hxl]
  have a1 : (L.take ((i + 1) * 2) ++ xs.drop (i * 2) ++ L.drop ((i + 1) * 2 + (xs.drop (i * 2)).length)).take (i * 2) = xs.take (i * 2) := by
    rw [List.append_assoc, List.take_append_of_le_length (by omega), List.take_take, ← hx, List.take_take]
    congr 1
    omega
  have a2 : (L.take ((i + 1) * 2) ++ xs.drop (i * 2) ++ L.drop ((i + 1) * 2 + (xs.drop (i * 2)).length)).drop (i * 2 + ys.length) = xs.drop (i * 2) ++ L.drop ((i + 1) * 2 + (xs.drop (i * 2)).length) := by
    rw [hy, List.append_assoc, show i * 2 + 2 = (L.take ((i + 1) * 2)).length by omega, List.drop_left]
  rw [a1, a2]
  unfold insL
  have e3 : (xs.take (i * 2)).length = i * 2 := by rw [List.length_take]; omega
  rw [← List.append_assoc, List.take_append_of_le_length (by simp only [List.length_append, e2, e3, hy]; omega), List.take_of_length_le (by simp only [List.length_append, e2, e3, hy]; omega)]

set_option maxHeartbeats 4000000 in
theorem insRw_room (w : World) (base n i g cap vb vc : Nat) (xs ys : List Value) (cur : Array Value) (hi : i < n) (hb : base ≤ g) (hg : w.heap[g]? = some (.cells cur 173 (0, 0))) (hnc : n + 1 ≤ cap) (hcm : cap ≤ maxLen) (hcs : cur.size = cap * 2) (htk : cur.toList.take (n * 2) = xs) (hx1 : ∀ u ∈ xs, u.oneCell' = true) (hn : n ≤ 1000)
    (hvb : vb ≠ g) {tA : TypeId} {cv : Array Value} (hv : w.heap[vb]? = some (.cells cv tA (0, 0))) (hy : ys.length = 2) (hys : ∀ j u, ys[j]? = some u → w.cell? ⟨vb, j, none⟩ = some u) (h1 : ∀ u ∈ ys, u.oneCell' = true) :
    Calls Tryz.prog 182 #[.slice (some ⟨g, 0, none⟩) n cap, .int .i64 i, .slice (some ⟨vb, 0, none⟩) 1 vc] w (InsA w base (.slice (some ⟨g, 0, none⟩) n cap) n (insL xs ys i)) := by
  obtain ⟨i0, hi0, hz0, hz1, hz2⟩ := info_parts2 infoRw
  have hsz : (Tryz.prog.info? 173).map (·.size) = some 2 := by rw [hi0]; simp [hz1]
  have hxl : xs.length = n * 2 := by rw [← htk, List.length_take, Array.length_toList]; omega
  have hdl : (xs.drop (i * 2)).length = (n - i) * 2 := by rw [List.length_drop, hxl]; omega
  have hov : ∀ lb cb, (callFunc 218 #[.slice (some ⟨vb, 0, none⟩) 1 vc, .slice (some ⟨g, (i + 1) * 2, none⟩) lb cb]).run Tryz.prog w = .ok (.value (.bool false)) w := fun lb cb => by
    rw [run_callFunc_extern Tryz.func218 (by kernel_rfl) (by kernel_rfl) (by kernel_rfl) (e := Extern.SlicesOverlaps.overlaps #[28, 28] #[4]) (by kernel_rfl),
      Lib.run_overlaps_apart w 28 4 173 Tryz.underlying28 2 (fun w => by simp [sizeOf, typeInfo, hi0, hz1]) ⟨vb, 0, none⟩ ⟨g, (i + 1) * 2, none⟩ 1 vc lb cb hvb tA 173 cv.size cur.size (by simp [World.shape?, hv]) (by simp [World.shape?, hg]) (by omega) (by simp [World.frozen?, hv]) (by simp [World.frozen?, hv])]
    rfl
  obtain ⟨cur1, hc1⟩ : ∃ cur1, cur1 = (cur.toList.take ((i + 1) * 2) ++ xs.drop (i * 2) ++ cur.toList.drop ((i + 1) * 2 + (xs.drop (i * 2)).length)).toArray := ⟨_, rfl⟩
  have hcp1 : ∀ ty dc sc, (Builtin.copy_ #[28, 28] ty #[.slice (some ⟨g, (i + 1) * 2, none⟩) (n - i) dc, .slice (some ⟨g, i * 2, none⟩) (n + 1 - i) sc]).run Tryz.prog w.drew = .ok (goInt (Nat.min (n + 1 - i) (n - i))) (w.drew.setRow g cur1) := fun ty dc sc => by
    rw [hc1]
    refine run_copy_rowK w.drew _ _ ty 173 2 g ((i + 1) * 2) _ dc ⟨g, i * 2, none⟩ _ sc cur 173 (xs.drop (i * 2)) Tryz.underlying28 hsz hg ?_ ?_ ?_ fun v hv => hx1 v (List.mem_of_mem_drop hv)
    · rw [hdl]; simp only [Nat.min_def]; split <;> omega
    · intro j v hj
      rw [WideShapes.add_plain, ← htk, List.getElem?_drop, List.getElem?_take] at *
      split at hj
      · show World.cell? w _ = _
        simp only [World.cell?, hg]
        simpa using hj
      · cases hj
    · rw [hdl, hcs]; omega
  obtain ⟨W1, hW1⟩ : ∃ W1, W1 = w.drew.setRow g cur1 := ⟨_, rfl⟩
  have hg1 : W1.heap[g]? = some (.cells cur1 173 (0, 0)) := by rw [hW1]; exact setRow_heap w.drew g cur _ _ _ hg
  have hs1 : cur1.size = cap * 2 := by
    rw [hc1]
    simp only [List.size_toArray, List.length_append, List.length_take, List.length_drop, Array.length_toList, hcs, hxl]
    omega
  obtain ⟨cur2, hc2⟩ : ∃ cur2, cur2 = (cur1.toList.take (i * 2) ++ ys ++ cur1.toList.drop (i * 2 + ys.length)).toArray := ⟨_, rfl⟩
  have hcp2 : ∀ ty dc, (Builtin.copy_ #[28, 28] ty #[.slice (some ⟨g, i * 2, none⟩) (n + 1 - i) dc, .slice (some ⟨vb, 0, none⟩) 1 vc]).run Tryz.prog W1 = .ok (goInt (Nat.min 1 (n + 1 - i))) (W1.setRow g cur2) := fun ty dc => by
    rw [hc2]
    refine run_copy_rowK W1 _ _ ty 173 2 g (i * 2) _ dc ⟨vb, 0, none⟩ _ vc cur1 173 ys Tryz.underlying28 hsz hg1 ?_ ?_ ?_ h1
    · rw [hy]; simp only [Nat.min_def]; split <;> omega
    · intro j u hj
      rw [WideShapes.add_plain, Nat.zero_add, hW1, cell_setRow_other _ _ _ _ hvb]
      exact hys j u hj
    · rw [hy, hs1]; omega
  have HF : Hid (InsA w base (.slice (some ⟨g, 0, none⟩) n cap) n (insL xs ys i) (.returned (.slice (some ⟨g, 0, none⟩) (n + 1) cap)) (W1.setRow g cur2)) := by
    have hlt : g < w.heap.size := (Array.getElem?_eq_some_iff.1 hg).1
    refine ⟨g, cap, rfl, ⟨by rw [insL_len _ _ _ (by omega), hy, hxl]; omega, .inr ⟨g, cap, cur2, rfl, hb, setRow_heap W1 g cur1 _ _ _ hg1, hnc, hcm, ?_, ?_⟩⟩, ⟨?_, ?_, ?_, ?_, ?_⟩, .inl rfl, ?_⟩
    · rw [hc2]
      simp only [List.size_toArray, List.length_append, List.length_take, List.length_drop, Array.length_toList, hs1, hy]
      omega
    · rw [hc2, hc1]
      exact ins_room cur.toList xs ys n i hi (by rw [Array.length_toList, hcs]; omega) htk hy
    · rw [hW1]; rfl
    · rw [hW1]; rfl
    · rw [hW1]; rfl
    · rw [hW1]; simp
    · intro k hk hne
      have : k ≠ g := fun e => hne (by rw [e]; rfl)
      rw [setRow_other _ _ _ _ this, hW1, setRow_other _ _ _ _ this]
      rfl
    · rw [hW1]; simpa using hlt
  have hmx : Tryz.prog.follows .mixedOrders = true := by kernel_rfl
  have hc63 : cap ≤ 9223372036854775807 := by unfold maxLen at hcm; omega
  have hz2 : ¬ ((i : Int) = (n : Int)) := by omega
  have hin : i ≤ n := by omega
  have htn : ((i : Int) + 1).toNat = i + 1 := by omega
  have hb3 : (i : Int) ≤ (n : Int) + 1 := by omega
  have hw1 : IntKind.i64.wrap ((i : Int) + 1) = (i : Int) + 1 := by rw [IntKind.wrap_i64]; omega
  have hw2 : IntKind.i64.wrap ((n : Int) + 1) = (n : Int) + 1 := by rw [IntKind.wrap_i64]; omega
  have hb1 : (0 : Int) ≤ (i : Int) + 1 := by omega
  have hb2 : ¬ (cap = i + 1) := by omega
  have hb4 : ¬ (cap = i) := by omega
  rw [← hW1] at hcp1
  clear hc1 hc2 hg1 hs1 hW1 hys h1 hv hg hcs htk hx1 hcm hxl hdl hsz hi0 hz0 hz1
  go_enter Tryz.func182, Tryz.ntmps182
  go_wp2_with (simp only [hov])
  go_region_law_o (refine step_copy_runI rfl _ _ 28 28 rfl _ _ (by simp [Act.eval, Act.put]) (by simp [Act.eval, Act.put]) (hcp1 _ _ _) ?_)
  go_wp2_with (at_builtin; refine wpList_copy_runI _ rfl _ _ 28 28 rfl _ _ rfl rfl (hcp2 _ _) ?_)
  go_ret
  exact HF.out

theorem ins_grow (xs ys zs : List Value) (n i : Nat) (hi : i < n) (hx : xs.length = n * 2) (hy : ys.length = 2) (hz : 2 * (n + 1 - i) ≤ zs.length) (L1 : List Value) (hL : L1 = xs.take (i * 2) ++ zs) :
    (((L1.take (i * 2) ++ ys ++ L1.drop (i * 2 + ys.length)).take ((i + 1) * 2) ++ xs.drop (i * 2) ++ (L1.take (i * 2) ++ ys ++ L1.drop (i * 2 + ys.length)).drop ((i + 1) * 2 + (xs.drop (i * 2)).length)).take ((n + 1) * 2)) = insL xs ys i := by
  have e0 : (xs.take (i * 2)).length = i * 2 := by rw [List.length_take]; omega
  have e2 : (xs.drop (i * 2)).length = n * 2 - i * 2 := by rw [List.length_drop, hx]
  have a0 : L1.take (i * 2) = xs.take (i * 2) := by rw [hL, List.take_append_of_le_length (by omega), List.take_of_length_le (by omega)]
  have e1 : (xs.take (i * 2) ++ ys).length = (i + 1) * 2 := by rw [List.length_append, e0, hy]; omega
  rw [a0]
  have a1 : (xs.take (i * 2) ++ ys ++ L1.drop (i * 2 + ys.length)).take ((i + 1) * 2) = xs.take (i * 2) ++ ys := by
    rw [List.take_append_of_le_length (by omega), List.take_of_length_le (by omega)]
  rw [a1]
  unfold insL
  rw [List.take_append_of_le_length (by simp only [List.length_append, e0, e2, hy]; omega), List.take_of_length_le (by simp only [List.length_append, e0, e2, hy]; omega)]

set_option maxHeartbeats 4000000 in
theorem insRw_grow (w : World) (base n i g cap vb vc : Nat) (xs ys : List Value) (cur : Array Value) (hi : i < n) (hbase : base ≤ w.heap.size) (hg : w.heap[g]? = some (.cells cur 173 (0, 0))) (hnc : n ≤ cap) (hnr : cap < n + 1) (hcs : cur.size = cap * 2) (htk : cur.toList.take (n * 2) = xs) (hx1 : ∀ u ∈ xs, u.oneCell' = true) (hn : n ≤ 1000)
    (hv : vb < w.heap.size) (hy : ys.length = 2) (hys : ∀ j u, ys[j]? = some u → w.cell? ⟨vb, j, none⟩ = some u) (h1 : ∀ u ∈ ys, u.oneCell' = true) :
    Calls Tryz.prog 182 #[.slice (some ⟨g, 0, none⟩) n cap, .int .i64 i, .slice (some ⟨vb, 0, none⟩) 1 vc] w (InsA w base (.slice (some ⟨g, 0, none⟩) n cap) n (insL xs ys i)) := by
  obtain ⟨i0, hi0, hz0, hz1, hz2⟩ := info_parts2 infoRw
  have hsz : (Tryz.prog.info? 173).map (·.size) = some 2 := by rw [hi0]; simp [hz1]
  have hgw : g < w.heap.size := (Array.getElem?_eq_some_iff.1 hg).1
  have hxl : xs.length = n * 2 := by rw [← htk, List.length_take, Array.length_toList]; omega
  have hdl : (xs.drop (i * 2)).length = (n - i) * 2 := by rw [List.length_drop, hxl]; omega
  have hxc : ∀ j v, xs[j]? = some v → w.cell? ⟨g, j, none⟩ = some v := fun j v hj => by
    rw [← htk, List.getElem?_take] at hj
    split at hj
    · simp only [World.cell?, hg]
      simpa using hj
    · cases hj
  have hold : (Builtin.firstCells i0.size i (.slice (some ⟨g, 0, none⟩) i cap)).run Tryz.prog w.drew = .ok (xs.take (i * 2)).toArray w.drew := by
    rw [hz1]
    exact run_firstCells_some w.drew 2 i ⟨g, 0, none⟩ i cap (xs.take (i * 2)) (by rw [List.length_take]; omega) (fun j v hj => by
      rw [WideShapes.add_plain, Nat.zero_add]
      rw [List.getElem?_take] at hj
      split at hj
      · exact hxc j v hj
      · cases hj)
  have hik : i + (n + 1 - i) = n + 1 := by omega
  have hkk : (n : Int) + 1 - (i : Int) = ((n + 1 - i : Nat) : Int) := by omega
  have hfit : Builtin.nextslicecap (n + 1) cap * i0.bytes ≤ 281474976710656 := growslice_fits hnr (by rw [hz2]; omega)
  obtain ⟨G, hG⟩ : ∃ G, G = grownCap w (n + 1) cap 173 := ⟨_, rfl⟩
  have hrz := fun ty => Lib.run_append_grow_zeros (P := Tryz.prog) w 28 3 ty 173 i0 _ .i64 .i64 Tryz.underlying28 Tryz.underlying3 hi0 hz0 (some ⟨g, 0, none⟩) i cap (xs.take (i * 2)) hold (n + 1 - i) (by omega) (by omega) (by omega) (by omega) (by rw [hz2]; omega) (by rw [hik]; exact hfit)
  rw [hik, ← hG, ← hkk] at hrz
  obtain ⟨ZA, hZA⟩ : ∃ ZA : Array Value, ZA = Builtin.zeroCells (Value.agg #[Value.int IntKind.i64 0, Value.slice none 0 0]).cells (n + 1 - i) ++ Builtin.zeroCells (Value.agg #[Value.int IntKind.i64 0, Value.slice none 0 0]).cells (G - (n + 1)) := ⟨_, rfl⟩
  have hGn : n + 1 ≤ G := by rw [hG]; exact grownCap_ge w _ _ _
  have hGm : G ≤ maxLen := by rw [hG]; exact grownCap_le_maxLen w (n + 1) cap 173 (by unfold maxLen; omega)
  have hZl : ZA.size = (G - i) * 2 := by
    rw [hZA]
    have e : (Value.agg #[Value.int IntKind.i64 0, Value.slice none 0 0]).cells.size = 2 := rfl
    simp only [Array.size_append, size_zeroCells, e]
    omega
  simp only [Array.append_assoc, ← hZA] at hrz
  obtain ⟨ROW, hROW⟩ : ∃ ROW : Array Value, ROW = (xs.take (i * 2)).toArray ++ ZA := ⟨_, rfl⟩
  rw [← hROW] at hrz
  have hRl : ROW.toList = xs.take (i * 2) ++ ZA.toList := by rw [hROW]; simp
  have hRs : ROW.size = G * 2 := by
    rw [hROW]
    simp only [Array.size_append, List.size_toArray, List.length_take, hZl]
    omega
  obtain ⟨W1, hW1⟩ : ∃ W1, W1 = w.drew.alloc (.cells ROW 173) := ⟨_, rfl⟩
  rw [← hW1] at hrz
  have hg1 : W1.heap[w.heap.size]? = some (.cells ROW 173 (0, 0)) := by rw [hW1]; exact heap_alloc_new w.drew _
  have hO1 : ∀ k j, k < w.heap.size → W1.cell? ⟨k, j, none⟩ = w.cell? ⟨k, j, none⟩ := fun k j hk => by rw [hW1, World.cell?_alloc_past (w := w.drew) _ k j hk]; rfl
  obtain ⟨cur1, hc1⟩ : ∃ cur1, cur1 = (ROW.toList.take (i * 2) ++ ys ++ ROW.toList.drop (i * 2 + ys.length)).toArray := ⟨_, rfl⟩
  have hs1 : cur1.size = G * 2 := by
    rw [hc1]
    simp only [List.size_toArray, List.length_append, List.length_take, List.length_drop, Array.length_toList, hRs, hy]
    omega
  have hcp1 : ∀ ty dc, (Builtin.copy_ #[28, 28] ty #[.slice (some ⟨w.heap.size, i * 2, none⟩) (n + 1 - i) dc, .slice (some ⟨vb, 0, none⟩) 1 vc]).run Tryz.prog W1 = .ok (goInt (Nat.min 1 (n + 1 - i))) (W1.setRow w.heap.size cur1) := fun ty dc => by
    rw [hc1]
    refine run_copy_rowK W1 _ _ ty 173 2 w.heap.size (i * 2) _ dc ⟨vb, 0, none⟩ _ vc ROW 173 ys Tryz.underlying28 hsz hg1 ?_ ?_ ?_ h1
    · rw [hy]; simp only [Nat.min_def]; split <;> omega
    · intro j u hj
      rw [WideShapes.add_plain, Nat.zero_add, hO1 _ _ hv]
      exact hys j u hj
    · rw [hy, hRs]; omega
  obtain ⟨W2, hW2⟩ : ∃ W2, W2 = (W1.setRow w.heap.size cur1).drew := ⟨_, rfl⟩
  have hg2 : W2.heap[w.heap.size]? = some (.cells cur1 173 (0, 0)) := by rw [hW2]; exact setRow_heap W1 _ ROW _ _ _ hg1
  obtain ⟨cur2, hc2⟩ : ∃ cur2, cur2 = (cur1.toList.take ((i + 1) * 2) ++ xs.drop (i * 2) ++ cur1.toList.drop ((i + 1) * 2 + (xs.drop (i * 2)).length)).toArray := ⟨_, rfl⟩
  have hcp2 : ∀ ty dc sc, (Builtin.copy_ #[28, 28] ty #[.slice (some ⟨w.heap.size, (i + 1) * 2, none⟩) (n - i) dc, .slice (some ⟨g, i * 2, none⟩) (n - i) sc]).run Tryz.prog W2 = .ok (goInt (Nat.min (n - i) (n - i))) (W2.setRow w.heap.size cur2) := fun ty dc sc => by
    rw [hc2]
    refine run_copy_rowK W2 _ _ ty 173 2 w.heap.size ((i + 1) * 2) _ dc ⟨g, i * 2, none⟩ _ sc cur1 173 (xs.drop (i * 2)) Tryz.underlying28 hsz hg2 ?_ ?_ ?_ fun v hv => hx1 v (List.mem_of_mem_drop hv)
    · rw [hdl]; simp only [Nat.min_def]; split <;> omega
    · intro j v hj
      rw [WideShapes.add_plain, hW2]
      show World.cell? (W1.setRow w.heap.size cur1) _ = _
      rw [cell_setRow_other _ _ _ _ (by show g ≠ w.heap.size; omega), hO1 _ _ hgw]
      exact hxc _ v (by rwa [List.getElem?_drop] at hj)
    · rw [hdl, hs1]; omega
  have HF : Hid (InsA w base (.slice (some ⟨g, 0, none⟩) n cap) n (insL xs ys i) (.returned (.slice (some ⟨w.heap.size, 0, none⟩) (n + 1) G)) (W2.setRow w.heap.size cur2)) := by
    refine ⟨w.heap.size, G, rfl, ⟨by rw [insL_len _ _ _ (by omega), hy, hxl]; omega, .inr ⟨w.heap.size, G, cur2, rfl, hbase, setRow_heap W2 _ cur1 _ _ _ hg2, hGn, hGm, ?_, ?_⟩⟩, ⟨?_, ?_, ?_, ?_, ?_⟩, .inr rfl, ?_⟩
    · rw [hc2]
      simp only [List.size_toArray, List.length_append, List.length_take, List.length_drop, Array.length_toList, hs1, hxl]
      omega
    · rw [hc2, hc1]
      exact ins_grow xs ys ZA.toList n i hi hxl hy (by rw [Array.length_toList, hZl]; omega) ROW.toList hRl
    · rw [hW2, hW1]; rfl
    · rw [hW2, hW1]; rfl
    · rw [hW2, hW1]; rfl
    · rw [hW2, hW1]; simp
    · intro k hk hne
      have : k ≠ w.heap.size := by omega
      rw [setRow_other _ _ _ _ this, hW2]
      show (W1.setRow w.heap.size cur1).heap[k]? = _
      rw [setRow_other _ _ _ _ this, hW1]
      exact heap_alloc_old w.drew _ hk
    · rw [hW2, hW1]; simp
  have hmx : Tryz.prog.follows .mixedOrders = true := by kernel_rfl
  have hG63 : G ≤ 9223372036854775807 := by unfold maxLen at hGm; omega
  have hz3 : (cap : Int) < (n : Int) + 1 := by omega
  have hz2 : ¬ ((i : Int) = (n : Int)) := by omega
  have hin : i ≤ n := by omega
  have htn : ((i : Int) + 1).toNat = i + 1 := by omega
  have hb3 : (i : Int) ≤ (n : Int) + 1 := by omega
  have hw1 : IntKind.i64.wrap ((i : Int) + 1) = (i : Int) + 1 := by rw [IntKind.wrap_i64]; omega
  have hw2 : IntKind.i64.wrap ((n : Int) + 1) = (n : Int) + 1 := by rw [IntKind.wrap_i64]; omega
  have hw3 : IntKind.i64.wrap ((n : Int) + 1 - (i : Int)) = (n : Int) + 1 - (i : Int) := by rw [IntKind.wrap_i64]; omega
  have hb1 : (0 : Int) ≤ (i : Int) + 1 := by omega
  have hGi : ¬ (G = i) := by omega
  have hGim : ¬ (G = i + 1) := by omega
  have hci : ¬ (cap = i) := by omega
  obtain ⟨GH, hGH⟩ : ∃ GH, GH = w.heap.size := ⟨_, rfl⟩
  rw [← hGH] at hrz hcp1 hcp2 HF hW2
  have hD : W2 = (W1.setRow GH cur1).drew := hW2
  clear hc1 hc2 hg1 hg2 hs1 hW1 hW2 hys h1 hv hg hcs htk hx1 hxl hdl hsz hi0 hz0 hz1 hO1 hold hxc hfit hik hkk hG hZA hZl hROW hRl hRs hGm
  subst hD
  clear hGH
  go_enter Tryz.func182, Tryz.ntmps182
  go_wp2_with (first
    | (at_builtin; refine Lib.wpList_append_run _ rfl _ _ _ _ rfl _ _ rfl rfl _ _ (hrz _) ?_)
    | (at_builtin; refine wpList_copy_runI _ rfl _ _ 28 28 rfl _ _ rfl rfl (hcp1 _ _) ?_))
  go_region_law_o (refine step_copy_runI rfl _ _ 28 28 rfl _ _ (by simp [Act.eval, Act.put]) (by simp [Act.eval, Act.put]) (hcp2 _ _ _) ?_)
  go_wp2_with fail
  go_ret
  exact HF.out

/-- One row put in ahead of the i-th, whatever room there is. -/
theorem insRw_any (w : World) (base n i vb vc : Nat) (v : Value) (xs ys : List Value) (hown : w.ownsRow base 173 2 v n xs) (hi : i ≤ n) (hbase : base ≤ w.heap.size) (hn : n ≤ 1000) (hx1 : ∀ u ∈ xs, u.oneCell' = true)
    (hvb : v.ownBlock ≠ some vb) {tA : TypeId} {cv : Array Value} (hv : w.heap[vb]? = some (.cells cv tA (0, 0))) (hy : ys.length = 2) (hys : ∀ j u, ys[j]? = some u → w.cell? ⟨vb, j, none⟩ = some u) (h1 : ∀ u ∈ ys, u.oneCell' = true) :
    Calls Tryz.prog 182 #[v, .int .i64 i, .slice (some ⟨vb, 0, none⟩) 1 vc] w (InsA w base v n (insL xs ys i)) := by
  rcases Nat.eq_or_lt_of_le hi with rfl | hlt
  · exact insRw_end w base i vb vc v xs ys hown hbase hn hy hys h1
  · rcases hown.2 with ⟨_, h0⟩ | ⟨g, cap, cur, rfl, hbg, hg, hnc, hcm, hcs, htk⟩
    · omega
    · have hne : vb ≠ g := fun e => hvb (by rw [e]; rfl)
      by_cases hroom : n + 1 ≤ cap
      · exact insRw_room w base n i g cap vb vc xs ys cur hlt hbg hg hroom hcm hcs htk hx1 hn hne hv hy hys h1
      · exact insRw_grow w base n i g cap vb vc xs ys cur hlt hbase hg hnc (by omega) hcs htk hx1 hn (Array.getElem?_eq_some_iff.1 hv).1 hy hys h1
/-- Only blocks of the set P are written, and new ones. -/
structure WritesP (P : Nat → Prop) (w w' : World) : Prop where
  os : w'.os = w.os
  tape : w'.tape = w.tape
  output : w'.output = w.output
  size : w.heap.size ≤ w'.heap.size
  block : ∀ k, k < w.heap.size → ¬ P k → w'.heap[k]? = w.heap[k]?
theorem WritesP.refl (P : Nat → Prop) (w : World) : WritesP P w w := ⟨rfl, rfl, rfl, Nat.le_refl _, fun _ _ _ => rfl⟩
theorem WritesP.trans {P : Nat → Prop} {a b c : World} (h : WritesP P a b) (k : WritesP P b c) : WritesP P a c :=
  ⟨k.os.trans h.os, k.tape.trans h.tape, k.output.trans h.output, Nat.le_trans h.size k.size, fun q hq hn => (k.block q (Nat.lt_of_lt_of_le hq h.size) hn).trans (h.block q hq hn)⟩
theorem WritesP.of {P : Nat → Prop} {lo hi : Nat} {w w' : World} (h : Writes lo hi w w') (hp : ∀ x, lo ≤ x → x < hi → P x) : WritesP P w w' :=
  ⟨h.os, h.tape, h.output, h.size, fun q hq hn => h.block q hq (by
    by_cases c : q < lo
    · exact .inl c
    · by_cases d : hi ≤ q
      · exact .inr d
      · exact absurd (hp q (by omega) (by omega)) hn)⟩
theorem WritesP.to {P : Nat → Prop} {lo hi : Nat} {w w' : World} (h : WritesP P w w') (hp : ∀ x, P x → lo ≤ x ∧ x < hi) : Writes lo hi w w' :=
  ⟨h.os, h.tape, h.output, h.size, fun q hq hn => h.block q hq fun c => by have := hp q c; omega⟩
theorem WritesP.below {P : Nat → Prop} {w w' : World} (h : Below w.heap.size w w') : WritesP P w w' :=
  WritesP.of (Writes.of_below (lo := w.heap.size) (hi := w.heap.size) h) fun x h1 h2 => by omega
/-- Txns in blocks of their own, all of the set P. -/
def OwnTxP (w : World) (P : Nat → Prop) (a : Option Addr) (n : Nat) (T : Nat → Tx) : Prop :=
  n = 0 ∨ ∃ b off, a = some ⟨b, off, none⟩ ∧ P b ∧ b < w.heap.size ∧ (∀ i, w.frozen? ⟨b, i, none⟩ = false) ∧ ∃ l h : Nat → Nat, (∀ i j, i < n → j < n → i ≠ j → h i ≤ l j ∨ h j ≤ l i) ∧
    ∀ i, i < n → (b < l i ∨ h i ≤ b) ∧ (∀ x, l i ≤ x → x < h i → P x) ∧ ∃ ai ci, CTx w b (off + i * 5) (T i) ai ci ∧ (T i).n ≤ ci ∧ OwnU w (l i) (h i) ai (T i).n (T i).U
theorem OwnTxP.at {w : World} {P : Nat → Prop} {a : Option Addr} {n : Nat} {T : Nat → Tx} (h : OwnTxP w P a n T) : TxsAt w a n T := by
  obtain h1 | ⟨b, off, ha, _, hl, _, l, h, _, hc⟩ := h
  · exact .inl h1
  · refine .inr ⟨b, off, ha, hl, fun i hi => ?_⟩
    obtain ⟨_, _, ai, ci, k1, k2, k3⟩ := hc i hi
    exact ⟨ai, ci, k1, k3.at, k2⟩
theorem OwnU_keepTx {w w' : World} {l h : Nat} {a : Option Addr} {n : Nat} {U : Nat → Ud} (h0 : OwnU w l h a n U) (hs : w.heap.size ≤ w'.heap.size) (hk : ∀ x, l ≤ x → x < h → x < w.heap.size → w'.heap[x]? = w.heap[x]?) : OwnU w' l h a n U := by
  obtain ⟨o0, o1 | ⟨b, off, rfl, p1, p2, p3⟩⟩ := h0
  · exact ⟨by omega, .inl o1⟩
  · have e := hk b p1 p2 (by omega)
    exact ⟨by omega, .inr ⟨b, off, rfl, p1, p2, rowU_block p3 e⟩⟩
theorem OwnTxP.keep {w w' : World} {P : Nat → Prop} {a : Option Addr} {n : Nat} {T : Nat → Tx} (h : OwnTxP w P a n T) (hs : w.heap.size ≤ w'.heap.size) (hk : ∀ x, P x → x < w.heap.size → w'.heap[x]? = w.heap[x]?) : OwnTxP w' P a n T := by
  obtain h1 | ⟨b, off, ha, hp, hl, hf, l, h, hj, hc⟩ := h
  · exact .inl h1
  · have e := hk b hp hl
    refine .inr ⟨b, off, ha, hp, Nat.lt_of_lt_of_le hl hs, fun i => (World.frozen?_of_block (w := w) (a := ⟨b, i, none⟩) e).trans (hf i), l, h, hj, fun i hi => ?_⟩
    obtain ⟨k0, k1, ai, ci, k2, k3, k4⟩ := hc i hi
    exact ⟨k0, k1, ai, ci, k2.block e, k3, OwnU_keepTx k4 hs fun x h1 h2 h3 => hk x (k1 x h1 h2) h3⟩
theorem OwnTxP.congr {w : World} {P : Nat → Prop} {a : Option Addr} {n : Nat} {T T' : Nat → Tx} (h : OwnTxP w P a n T) (e : ∀ i, i < n → T i = T' i) : OwnTxP w P a n T' := by
  obtain h1 | ⟨b, off, ha, h2, hl, hf, l, h, hj, hc⟩ := h
  · exact .inl h1
  · exact .inr ⟨b, off, ha, h2, hl, hf, l, h, hj, fun i hi => by rw [← e i hi]; exact hc i hi⟩
theorem OwnTx.toP {w : World} {lo hi : Nat} {a : Option Addr} {n : Nat} {T : Nat → Tx} (h : OwnTx w lo hi a n T) : OwnTxP w (fun x => lo ≤ x ∧ x < hi) a n T := by
  obtain ⟨h0, h1 | ⟨b, off, ha, hlo, hl, hf, l, h, hj, hc⟩⟩ := h
  · exact .inl h1
  · refine .inr ⟨b, off, ha, ⟨hlo, hl⟩, by omega, hf, l, h, hj, fun i hi => ?_⟩
    obtain ⟨k0, k1, r⟩ := hc i hi
    exact ⟨k0, fun x x1 x2 => by omega, r⟩
theorem OwnTxP.pick {w : World} {P : Nat → Prop} {a : Option Addr} {n : Nat} {T : Nat → Tx} (h : OwnTxP w P a n T) {j : Nat} (hj : j < n) :
    ∃ b off ai ci l h, a = some ⟨b, off, none⟩ ∧ P b ∧ b < w.heap.size ∧ (∀ i, w.frozen? ⟨b, i, none⟩ = false) ∧ CTx w b (off + j * 5) (T j) ai ci ∧ (T j).n ≤ ci ∧ (b < l ∨ h ≤ b) ∧ (∀ x, l ≤ x → x < h → P x) ∧ OwnU w l h ai (T j).n (T j).U ∧
      ∀ t w1, t.n = (T j).n → Writes l h (hdTx w b (off + j * 5) t) w1 → OwnU w1 l h ai t.n t.U → OwnTxP w1 P a n (upf T j t) := by
  obtain h1 | ⟨b, off, ha, hlo, hl, hf, l, h, hd, hc⟩ := h
  · omega
  obtain ⟨k0, k1, ai, ci, k2, k3, k4⟩ := hc j hj
  refine ⟨b, off, ai, ci, l j, h j, ha, hlo, hl, hf, k2, k3, k0, k1, k4, fun t w1 hn hw hr => ?_⟩
  have hsz : w.heap.size ≤ w1.heap.size := by have := hw.size; rw [hdTx_size] at this; exact this
  have eb : w1.heap[b]? = (hdTx w b (off + j * 5) t).heap[b]? := hw.block b (by rw [hdTx_size]; omega) (by omega)
  have cb : ∀ q, w1.cell? ⟨b, q, none⟩ = (hdTx w b (off + j * 5) t).cell? ⟨b, q, none⟩ := fun q => World.cell?_of_block (w := hdTx w b (off + j * 5) t) (a := ⟨b, q, none⟩) eb
  refine .inr ⟨b, off, ha, hlo, Nat.lt_of_lt_of_le hl hsz, fun i => ?_, l, h, hd, fun i hi => ?_⟩
  · rw [World.frozen?_of_block (w := hdTx w b (off + j * 5) t) (a := ⟨b, i, none⟩) eb, hdTx_frozen]; exact hf i
  · obtain ⟨m0, m1, ai', ci', m2, m3, m4⟩ := hc i hi
    by_cases e : i = j
    · subst e
      rw [upf_eq]
      have es : ai' = ai ∧ ci' = ci := by
        have x1 := k2.2.2.2.2
        have x2 := m2.2.2.2.2
        rw [x1] at x2
        simp only [Option.some.injEq, Value.slice.injEq] at x2
        exact ⟨x2.1.symm, x2.2.2.symm⟩
      exact ⟨m0, m1, ai, ci, (hdTx_same k2 hn).block eb, by rw [hn]; exact k3, hr⟩
    · rw [upf_ne _ _ e]
      refine ⟨m0, m1, ai', ci', ?_, m3, ?_⟩
      · have g : ∀ q, q < 5 → w1.cell? ⟨b, off + i * 5 + q, none⟩ = w.cell? ⟨b, off + i * 5 + q, none⟩ := fun q hq => (cb _).trans (hdTx_far (by omega))
        obtain ⟨h0, h1, h2, h3, h4⟩ := m2
        exact ⟨(g 0 (by omega)).trans h0, (g 1 (by omega)).trans h1, (g 2 (by omega)).trans h2, (g 3 (by omega)).trans h3, (g 4 (by omega)).trans h4⟩
      · have hdd := hd i j hi hj e
        have m5 := m4.writes (w' := hdTx w b (off + j * 5) t) (lo' := b) (hi' := b + 1) (hdTx_writes (Writes.refl _ _ _) (Nat.le_refl _) (Nat.lt_succ_self _)) (by omega)
        exact m5.writes hw (by omega)
set_option maxHeartbeats 2000000 in
theorem markTxnS_P (n : Nat) (T : Nat → Tx) (a : Option Addr) (cap : Nat) (P : Nat → Prop) (m : Int) (w : World) (hn : n ≤ 1048576) (hs : smTx T n ≤ 1048576) (hm1 : 0 ≤ m) (hm2 : m ≤ 16777216) (h : OwnTxP w P a n T) :
    Calls Tryz.prog 69 #[.slice a n cap, .int .i64 m] w fun e w' => e = .returned (.int .i64 (m + sTx T n)) ∧ WritesP P w w' ∧ OwnTxP w' P a n (mTx m T) := by
  have HO : Hid (OwnTxP w P a n T) := h
  clear h
  go_enter Tryz.func69, Tryz.ntmps69
  go_wp2
  go_loopw [1, 5] (fun q i wr => ∃ k : Nat, k ≤ n ∧ i = .int .i64 k ∧ q = .int .i64 (m + sTx T k) ∧ Hid (WritesP P w wr) ∧ Hid (OwnTxP wr P a n (pref (mTx m T) T k))) (fun _ i _ => n - (Go.RowKit.intOf i).toNat)
  case atStart => exact ⟨0, Nat.zero_le _, rfl, by simp [sTx, smf], WritesP.refl _ _, by rw [pref_zero]; exact HO⟩
  case round =>
    obtain ⟨k, hk0, rfl, rfl, HB, HP⟩ := hrel
    by_cases hlt : k < n
    · obtain ⟨b, off, ai, ci, l, h, rfl, hb1, hb2, hf, hC, hci, hbd, hr, hO, hU⟩ := HP.out.pick hlt
      rw [pref_at] at hC hci hO hU
      have hLk := smf_ge (fun i => (T i).n) n k hlt
      have hsk := smf_le (fun i => (T i).n) (n := n) (i := k) (by omega)
      have hstep : (sTx T (k + 1) : Int) = sTx T k + (T k).n * 4 + 4 := by simp [sTx, smf]; omega
      have hbS : sTx T k = smTx T k * 4 + k * 4 := sTx_eq T k
      have HM : Hid (mTx m T k = ⟨m + sTx T k, m + sTx T k + 1, m + sTx T k + 2, m + sTx T k + 3, (T k).n, mU (m + sTx T k + 4)⟩) := rfl
      have hSb : (sTx T k : Int) ≤ 8388608 := by unfold smTx at *; omega
      have hS0 : 0 ≤ (sTx T k : Int) := by omega
      have hTk : (T k).n ≤ 1048576 := by unfold smTx at *; omega
      generalize hS : (sTx T k : Int) = S at *
      have HU : Hid (∀ t w1, t.n = (T k).n → Writes l h (hdTx wr b (off + k * 5) t) w1 → OwnU w1 l h ai t.n t.U → OwnTxP w1 P (some ⟨b, off, none⟩) n (upf (pref (mTx m T) T k) k t)) := hU
      have HO2 : Hid (OwnU (hdTx wr b (off + k * 5) ⟨m + S, m + S + 1, m + S + 2, m + S + 3, (T k).n, mU (m + S + 4)⟩) l h ai (T k).n (T k).U) := hO.writes (hdTx_writes (Writes.refl _ _ _) (Nat.le_refl _) (Nat.lt_succ_self _)) (by omega)
      have HG : Hid (P b ∧ ∀ x, l ≤ x → x < h → P x) := ⟨hb1, hr⟩
      obtain ⟨q0, q1, q2, q3, q4⟩ := hC
      have g1 : IntKind.i64.wrap (m + S + 1) = m + S + 1 := by rw [IntKind.wrap_i64]; omega
      have g2 : IntKind.i64.wrap (m + S + 1 + 1) = m + S + 2 := by rw [IntKind.wrap_i64]; omega
      have g3 : IntKind.i64.wrap (m + S + 2 + 1) = m + S + 3 := by rw [IntKind.wrap_i64]; omega
      have g4 : IntKind.i64.wrap (m + S + 3 + 1) = m + S + 4 := by rw [IntKind.wrap_i64]; omega
      clear HP hO hU hb1 hb2 hbd hr hbS hS hLk hsk
      go_wp2_with fail
      refine (markUndoS_any (T k).n (T k).U ai ci l h (m + S + 4) _ (by omega) (by omega) (by omega) HO2.out).mono ?_
      rintro e w1 ⟨rfl, hw, hr⟩
      have HW : Hid (Writes l h (hdTx wr b (off + k * 5) ⟨m + S, m + S + 1, m + S + 2, m + S + 3, (T k).n, mU (m + S + 4)⟩) w1) := hw
      have HR1 : Hid (OwnU w1 l h ai (T k).n (mU (m + S + 4))) := hr
      clear hw hr
      go_wp2_with fail
      go_roundw
      case rel =>
        have H := HU.out ⟨m + S, m + S + 1, m + S + 2, m + S + 3, (T k).n, mU (m + S + 4)⟩ w1 rfl HW.out HR1.out
        rw [← HM.out, pref_upf] at H
        obtain ⟨g1, g2⟩ := HG.out
        have HB2 : WritesP P wr (hdTx wr b (off + k * 5) ⟨m + S, m + S + 1, m + S + 2, m + S + 3, (T k).n, mU (m + S + 4)⟩) := WritesP.of (hdTx_writes (Writes.refl _ _ _) (Nat.le_refl b) (Nat.lt_succ_self b)) fun x x1 x2 => (show x = b by omega) ▸ g1
        exact ⟨k + 1, hlt, by go_num, by rw [hstep]; go_num, HB.out.trans (HB2.trans (WritesP.of HW.out g2)), H⟩
      case measure => simp [Go.RowKit.intOf]; omega
    · have hkn : k = n := by omega
      have HO2 : Hid (OwnTxP wr P a n (mTx m T)) := HP.out.congr fun i hi => pref_lt _ _ (by omega)
      have hnl : ¬ ((k : Int) < (n : Int)) := by omega
      go_wp2_with fail
      go_ret
      exact ⟨ret_int (by first | rfl | rw [hkn]), HB.out, HO2.out⟩
/-- Rows in blocks of their own, all of the set P. -/
def OwnRwP (w : World) (P : Nat → Prop) (a : Option Addr) (n : Nat) (T : Nat → Rw) : Prop :=
  n = 0 ∨ ∃ b off, a = some ⟨b, off, none⟩ ∧ P b ∧ b < w.heap.size ∧ (∀ i, w.frozen? ⟨b, i, none⟩ = false) ∧ ∃ l h : Nat → Nat, (∀ i j, i < n → j < n → i ≠ j → h i ≤ l j ∨ h j ≤ l i) ∧
    ∀ i, i < n → (b < l i ∨ h i ≤ b) ∧ (∀ x, l i ≤ x → x < h i → P x) ∧ ∃ ai ci, CRw w b (off + i * 2) (T i) ai ci ∧ (T i).n ≤ ci ∧ Own4 w (l i) (h i) ai (T i).n (T i).U
theorem OwnRwP.at {w : World} {P : Nat → Prop} {a : Option Addr} {n : Nat} {T : Nat → Rw} (h : OwnRwP w P a n T) : RwsAt w a n T := by
  obtain h1 | ⟨b, off, ha, _, hl, _, l, h, _, hc⟩ := h
  · exact .inl h1
  · refine .inr ⟨b, off, ha, hl, fun i hi => ?_⟩
    obtain ⟨_, _, ai, ci, k1, k2, k3⟩ := hc i hi
    exact ⟨ai, ci, k1, k3.at, k2⟩
theorem Own4_keepRw {w w' : World} {l h : Nat} {a : Option Addr} {n : Nat} {U : Nat → Vr} (h0 : Own4 w l h a n U) (hs : w.heap.size ≤ w'.heap.size) (hk : ∀ x, l ≤ x → x < h → x < w.heap.size → w'.heap[x]? = w.heap[x]?) : Own4 w' l h a n U := by
  obtain ⟨o0, o1 | ⟨b, off, rfl, p1, p2, p3⟩⟩ := h0
  · exact ⟨by omega, .inl o1⟩
  · have e := hk b p1 p2 (by omega)
    exact ⟨by omega, .inr ⟨b, off, rfl, p1, p2, row4_block p3 e⟩⟩
theorem OwnRwP.keep {w w' : World} {P : Nat → Prop} {a : Option Addr} {n : Nat} {T : Nat → Rw} (h : OwnRwP w P a n T) (hs : w.heap.size ≤ w'.heap.size) (hk : ∀ x, P x → x < w.heap.size → w'.heap[x]? = w.heap[x]?) : OwnRwP w' P a n T := by
  obtain h1 | ⟨b, off, ha, hp, hl, hf, l, h, hj, hc⟩ := h
  · exact .inl h1
  · have e := hk b hp hl
    refine .inr ⟨b, off, ha, hp, Nat.lt_of_lt_of_le hl hs, fun i => (World.frozen?_of_block (w := w) (a := ⟨b, i, none⟩) e).trans (hf i), l, h, hj, fun i hi => ?_⟩
    obtain ⟨k0, k1, ai, ci, k2, k3, k4⟩ := hc i hi
    exact ⟨k0, k1, ai, ci, k2.block e, k3, Own4_keepRw k4 hs fun x h1 h2 h3 => hk x (k1 x h1 h2) h3⟩
theorem OwnRwP.congr {w : World} {P : Nat → Prop} {a : Option Addr} {n : Nat} {T T' : Nat → Rw} (h : OwnRwP w P a n T) (e : ∀ i, i < n → T i = T' i) : OwnRwP w P a n T' := by
  obtain h1 | ⟨b, off, ha, h2, hl, hf, l, h, hj, hc⟩ := h
  · exact .inl h1
  · exact .inr ⟨b, off, ha, h2, hl, hf, l, h, hj, fun i hi => by rw [← e i hi]; exact hc i hi⟩
theorem OwnRw.toP {w : World} {lo hi : Nat} {a : Option Addr} {n : Nat} {T : Nat → Rw} (h : OwnRw w lo hi a n T) : OwnRwP w (fun x => lo ≤ x ∧ x < hi) a n T := by
  obtain ⟨h0, h1 | ⟨b, off, ha, hlo, hl, hf, l, h, hj, hc⟩⟩ := h
  · exact .inl h1
  · refine .inr ⟨b, off, ha, ⟨hlo, hl⟩, by omega, hf, l, h, hj, fun i hi => ?_⟩
    obtain ⟨k0, k1, r⟩ := hc i hi
    exact ⟨k0, fun x x1 x2 => by omega, r⟩
theorem OwnRwP.pick {w : World} {P : Nat → Prop} {a : Option Addr} {n : Nat} {T : Nat → Rw} (h : OwnRwP w P a n T) {j : Nat} (hj : j < n) :
    ∃ b off ai ci l h, a = some ⟨b, off, none⟩ ∧ P b ∧ b < w.heap.size ∧ (∀ i, w.frozen? ⟨b, i, none⟩ = false) ∧ CRw w b (off + j * 2) (T j) ai ci ∧ (T j).n ≤ ci ∧ (b < l ∨ h ≤ b) ∧ (∀ x, l ≤ x → x < h → P x) ∧ Own4 w l h ai (T j).n (T j).U ∧
      ∀ t w1, t.n = (T j).n → Writes l h (hdRw w b (off + j * 2) t) w1 → Own4 w1 l h ai t.n t.U → OwnRwP w1 P a n (upf T j t) := by
  obtain h1 | ⟨b, off, ha, hlo, hl, hf, l, h, hd, hc⟩ := h
  · omega
  obtain ⟨k0, k1, ai, ci, k2, k3, k4⟩ := hc j hj
  refine ⟨b, off, ai, ci, l j, h j, ha, hlo, hl, hf, k2, k3, k0, k1, k4, fun t w1 hn hw hr => ?_⟩
  have hsz : w.heap.size ≤ w1.heap.size := by have := hw.size; rw [hdRw_size] at this; exact this
  have eb : w1.heap[b]? = (hdRw w b (off + j * 2) t).heap[b]? := hw.block b (by rw [hdRw_size]; omega) (by omega)
  have cb : ∀ q, w1.cell? ⟨b, q, none⟩ = (hdRw w b (off + j * 2) t).cell? ⟨b, q, none⟩ := fun q => World.cell?_of_block (w := hdRw w b (off + j * 2) t) (a := ⟨b, q, none⟩) eb
  refine .inr ⟨b, off, ha, hlo, Nat.lt_of_lt_of_le hl hsz, fun i => ?_, l, h, hd, fun i hi => ?_⟩
  · rw [World.frozen?_of_block (w := hdRw w b (off + j * 2) t) (a := ⟨b, i, none⟩) eb, hdRw_frozen]; exact hf i
  · obtain ⟨m0, m1, ai', ci', m2, m3, m4⟩ := hc i hi
    by_cases e : i = j
    · subst e
      rw [upf_eq]
      have es : ai' = ai ∧ ci' = ci := by
        have x1 := k2.2
        have x2 := m2.2
        rw [x1] at x2
        simp only [Option.some.injEq, Value.slice.injEq] at x2
        exact ⟨x2.1.symm, x2.2.2.symm⟩
      exact ⟨m0, m1, ai, ci, (hdRw_same k2 hn).block eb, by rw [hn]; exact k3, hr⟩
    · rw [upf_ne _ _ e]
      refine ⟨m0, m1, ai', ci', ?_, m3, ?_⟩
      · have g : ∀ q, q < 2 → w1.cell? ⟨b, off + i * 2 + q, none⟩ = w.cell? ⟨b, off + i * 2 + q, none⟩ := fun q hq => (cb _).trans (hdRw_far (by omega))
        obtain ⟨h0, h1⟩ := m2
        exact ⟨(g 0 (by omega)).trans h0, (g 1 (by omega)).trans h1⟩
      · have hdd := hd i j hi hj e
        have m5 := m4.writes (w' := hdRw w b (off + j * 2) t) (lo' := b) (hi' := b + 1) (hdRw_writes (Writes.refl _ _ _) (Nat.le_refl _) (Nat.lt_succ_self _)) (by omega)
        exact m5.writes hw (by omega)
set_option maxHeartbeats 2000000 in
theorem markRowS_P (n : Nat) (T : Nat → Rw) (a : Option Addr) (cap : Nat) (P : Nat → Prop) (m : Int) (w : World) (hn : n ≤ 1048576) (hs : smRw T n ≤ 1048576) (hm1 : 0 ≤ m) (hm2 : m ≤ 16777216) (h : OwnRwP w P a n T) :
    Calls Tryz.prog 70 #[.slice a n cap, .int .i64 m] w fun e w' => e = .returned (.int .i64 (m + sRw T n)) ∧ WritesP P w w' ∧ OwnRwP w' P a n (mRw m T) := by
  have HO : Hid (OwnRwP w P a n T) := h
  clear h
  go_enter Tryz.func70, Tryz.ntmps70
  go_wp2
  go_loopw [1, 5] (fun q i wr => ∃ k : Nat, k ≤ n ∧ i = .int .i64 k ∧ q = .int .i64 (m + sRw T k) ∧ Hid (WritesP P w wr) ∧ Hid (OwnRwP wr P a n (pref (mRw m T) T k))) (fun _ i _ => n - (Go.RowKit.intOf i).toNat)
  case atStart => exact ⟨0, Nat.zero_le _, rfl, by simp [sRw, smf], WritesP.refl _ _, by rw [pref_zero]; exact HO⟩
  case round =>
    obtain ⟨k, hk0, rfl, rfl, HB, HP⟩ := hrel
    by_cases hlt : k < n
    · obtain ⟨b, off, ai, ci, l, h, rfl, hb1, hb2, hf, hC, hci, hbd, hr, hO, hU⟩ := HP.out.pick hlt
      rw [pref_at] at hC hci hO hU
      have hLk := smf_ge (fun i => (T i).n) n k hlt
      have hsk := smf_le (fun i => (T i).n) (n := n) (i := k) (by omega)
      have hstep : (sRw T (k + 1) : Int) = sRw T k + (T k).n * 4 + 1 := by simp [sRw, smf]; omega
      have hbS : sRw T k = smRw T k * 4 + k * 1 := sRw_eq T k
      have HM : Hid (mRw m T k = ⟨m + sRw T k, (T k).n, mV (m + sRw T k + 1)⟩) := rfl
      have hSb : (sRw T k : Int) ≤ 5242880 := by unfold smRw at *; omega
      have hS0 : 0 ≤ (sRw T k : Int) := by omega
      have hTk : (T k).n ≤ 1048576 := by unfold smRw at *; omega
      generalize hS : (sRw T k : Int) = S at *
      have HU : Hid (∀ t w1, t.n = (T k).n → Writes l h (hdRw wr b (off + k * 2) t) w1 → Own4 w1 l h ai t.n t.U → OwnRwP w1 P (some ⟨b, off, none⟩) n (upf (pref (mRw m T) T k) k t)) := hU
      have HO2 : Hid (Own4 (hdRw wr b (off + k * 2) ⟨m + S, (T k).n, mV (m + S + 1)⟩) l h ai (T k).n (T k).U) := hO.writes (hdRw_writes (Writes.refl _ _ _) (Nat.le_refl _) (Nat.lt_succ_self _)) (by omega)
      have HG : Hid (P b ∧ ∀ x, l ≤ x → x < h → P x) := ⟨hb1, hr⟩
      obtain ⟨q0, q1⟩ := hC
      have g1 : IntKind.i64.wrap (m + S + 1) = m + S + 1 := by rw [IntKind.wrap_i64]; omega
      clear HP hO hU hb1 hb2 hbd hr hbS hS hLk hsk
      go_wp2_with fail
      refine (markVersionS_any (T k).n (T k).U ai ci l h (m + S + 1) _ (by omega) (by omega) (by omega) HO2.out).mono ?_
      rintro e w1 ⟨rfl, hw, hr⟩
      have HW : Hid (Writes l h (hdRw wr b (off + k * 2) ⟨m + S, (T k).n, mV (m + S + 1)⟩) w1) := hw
      have HR1 : Hid (Own4 w1 l h ai (T k).n (mV (m + S + 1))) := hr
      clear hw hr
      go_wp2_with fail
      go_roundw
      case rel =>
        have H := HU.out ⟨m + S, (T k).n, mV (m + S + 1)⟩ w1 rfl HW.out HR1.out
        rw [← HM.out, pref_upf] at H
        obtain ⟨g1, g2⟩ := HG.out
        have HB2 : WritesP P wr (hdRw wr b (off + k * 2) ⟨m + S, (T k).n, mV (m + S + 1)⟩) := WritesP.of (hdRw_writes (Writes.refl _ _ _) (Nat.le_refl b) (Nat.lt_succ_self b)) fun x x1 x2 => (show x = b by omega) ▸ g1
        exact ⟨k + 1, hlt, by go_num, by rw [hstep]; go_num, HB.out.trans (HB2.trans (WritesP.of HW.out g2)), H⟩
      case measure => simp [Go.RowKit.intOf]; omega
    · have hkn : k = n := by omega
      have HO2 : Hid (OwnRwP wr P a n (mRw m T)) := HP.out.congr fun i hi => pref_lt _ _ (by omega)
      have hnl : ¬ ((k : Int) < (n : Int)) := by omega
      go_wp2_with fail
      go_ret
      exact ⟨ret_int (by first | rfl | rw [hkn]), HB.out, HO2.out⟩
/-- An engine whose two lists lie in two sets of blocks of their own, all from lo on below hi. -/
def OwnE2 (w : World) (lo hi : Nat) (a a' : Option Addr) (E : En) : Prop :=
  hi ≤ w.heap.size ∧ ∃ P Q : Nat → Prop, (∀ x, P x → lo ≤ x ∧ x < hi) ∧ (∀ x, Q x → lo ≤ x ∧ x < hi) ∧ (∀ x, P x → ¬ Q x) ∧ OwnTxP w P a E.p E.T ∧ OwnRwP w Q a' E.q E.R
theorem OwnE2.at {w : World} {lo hi : Nat} {a a' : Option Addr} {E : En} (h : OwnE2 w lo hi a a' E) : EngAt w a a' E := by
  obtain ⟨_, P, Q, _, _, _, hp, hl⟩ := h
  exact ⟨hp.at, hl.at⟩
theorem OwnE2.writes {w w' : World} {lo hi lo' hi' : Nat} {a a' : Option Addr} {E : En} (h : OwnE2 w lo hi a a' E) (hw : Writes lo' hi' w w') (hd : hi ≤ lo' ∨ hi' ≤ lo) : OwnE2 w' lo hi a a' E := by
  obtain ⟨h0, P, Q, k1, k2, k3, hp, hl⟩ := h
  exact ⟨Nat.le_trans h0 hw.size, P, Q, k1, k2, k3, hp.keep hw.size fun x hx h1 => hw.block x h1 (by have := k1 x hx; omega), hl.keep hw.size fun x hx h1 => hw.block x h1 (by have := k2 x hx; omega)⟩
theorem OwnE2.below {w w' : World} {lo hi : Nat} {a a' : Option Addr} {E : En} (h : OwnE2 w lo hi a a' E) (hb : Below w.heap.size w w') : OwnE2 w' lo hi a a' E :=
  h.writes (Writes.of_below (lo := hi) (hi := hi) hb) (.inl (Nat.le_refl _))
theorem OwnE2.wide {w : World} {lo hi lo' hi' : Nat} {a a' : Option Addr} {E : En} (h : OwnE2 w lo hi a a' E) (e1 : lo' ≤ lo) (e2 : hi ≤ hi') (e3 : hi' ≤ w.heap.size) : OwnE2 w lo' hi' a a' E := by
  obtain ⟨h0, P, Q, k1, k2, k3, hp, hl⟩ := h
  exact ⟨e3, P, Q, fun x hx => by have := k1 x hx; omega, fun x hx => by have := k2 x hx; omega, k3, hp, hl⟩
theorem OwnE.to2 {w : World} {lo hi : Nat} {a a' : Option Addr} {E : En} (h : OwnE w lo hi a a' E) : OwnE2 w lo hi a a' E := by
  obtain ⟨h0, l1, h1, l2, h2, k1, k2, k3, k4, k5, hp, hl⟩ := h
  exact ⟨h0, _, _, fun x hx => by omega, fun x hx => by omega, fun x hx hy => by omega, hp.toP, hl.toP⟩
set_option maxHeartbeats 2000000 in
theorem markEngine_2 (E : En) (a a' : Option Addr) (cap cap' lo hi : Nat) (m : Int) (w : World) (hs : SmallE E) (hm1 : 0 ≤ m) (hm2 : m ≤ 1048576) (h : OwnE2 w lo hi a a' E) :
    Calls Tryz.prog 15 #[.agg #[.int .i64 E.nx, .int .i64 E.ck, .slice a E.p cap, .slice a' E.q cap'], .int .i64 m] w fun e w' => e = .returned (.int .i64 (m + totE E)) ∧ Writes lo hi w w' ∧ OwnE2 w' lo hi a a' (mE m E) := by
  have HS : Hid (SmallE E) := hs
  have hst := sTx_le hs
  have HT : Hid ((totE E : Int) = sTx E.T E.p + sRw E.R E.q) := by simp [totE, Hid]
  obtain ⟨h0, P, Q, k1, k2, k3, hp, hl⟩ := h
  have HP : Hid (OwnTxP w P a E.p E.T) := hp
  have HL : Hid (OwnRwP w Q a' E.q E.R) := hl
  have K1 : Hid (∀ x, P x → lo ≤ x ∧ x < hi) := k1
  have K2 : Hid (∀ x, Q x → lo ≤ x ∧ x < hi) := k2
  have K3 : Hid (∀ x, P x → ¬ Q x) := k3
  clear hs hp hl k1 k2 k3
  go_enter Tryz.func15, Tryz.ntmps15
  go_wp2_with fail
  refine (markTxnS_P E.p E.T a cap P m _ HS.out.p HS.out.st hm1 (by omega) (HP.out.keep (below_new _ _).size fun x hx h1 => (below_new _ _).block x h1)).mono ?_
  rintro e w1 ⟨rfl, hw1, ho1⟩
  have HW : Hid (WritesP P w w1) := (WritesP.below (below_new _ _)).trans hw1
  have q1 : w1.cell? ⟨w.heap.size, 3, none⟩ = some (.slice a' E.q cap') := by
    rw [World.cell?_of_block (w := w.alloc _) (a := ⟨w.heap.size, 3, none⟩) (hw1.block w.heap.size (by simp) fun c => by have := K1.out _ c; omega)]; simp [go_sem]
  have HO1 : Hid (OwnTxP w1 P a E.p (mTx m E.T)) := ho1
  have hz1 : w.heap.size ≤ w1.heap.size := HW.out.size
  clear hw1 ho1
  go_wp2_with fail
  refine (markRowS_P E.q E.R a' cap' Q (m + sTx E.T E.p) _ HS.out.q HS.out.sr (by omega) (by omega) (HL.out.keep HW.out.size fun x hx h1 => HW.out.block x h1 fun c => K3.out x c hx)).mono ?_
  rintro e w2 ⟨rfl, hw2, ho2⟩
  have hz2 : w1.heap.size ≤ w2.heap.size := hw2.size
  have HO2 : OwnTxP w2 P a E.p (mTx m E.T) := HO1.out.keep hw2.size fun x hx h1 => hw2.block x h1 (K3.out x hx)
  go_wp2_with fail
  go_ret
  refine ⟨ret_int (by rw [HT.out]; omega), (HW.out.to K1.out).trans (hw2.to K2.out), ?_⟩
  exact ⟨by omega, P, Q, K1.out, K2.out, K3.out, HO2, ho2⟩
theorem markEngineResult_2 (c v : Int) (E : En) (a a' : Option Addr) (cap cap' lo hi : Nat) (w : World) (hs : SmallE E) (h : OwnE2 w lo hi a a' E) :
    Calls Tryz.prog 16 #[.agg #[.int .i64 c, .int .i64 v, .int .i64 E.nx, .int .i64 E.ck, .slice a E.p cap, .slice a' E.q cap'], .int .i64 1] w fun e w' => e = .returned (.int .i64 (1 + totE E)) ∧ Writes lo hi w w' ∧ OwnE2 w' lo hi a a' (mE 1 E) := by
  have HS : Hid (SmallE E) := hs
  have HO : Hid (OwnE2 w lo hi a a' E) := h
  clear hs h
  go_enter Tryz.func16, Tryz.ntmps16
  go_wp2_with fail
  refine (markEngine_2 E a a' cap cap' lo hi 1 _ HS.out (by omega) (by omega) (HO.out.below (below_new _ _))).mono ?_
  rintro e w1 ⟨rfl, hw, ho⟩
  go_wp2_with fail
  go_ret
  exact ⟨rfl, (Writes.of_below (below_new _ _)).trans hw, ho⟩
/-- An answer that is an engine in two sets of blocks of its own. -/
def ERes2 (c v : Int) (G : En) (w : World) (e : Ending) (w' : World) : Prop := ∃ a cap a' cap', e = .returned (.agg #[.int .i64 c, .int .i64 v, .int .i64 G.nx, .int .i64 G.ck, .slice a G.p cap, .slice a' G.q cap']) ∧ Below w.heap.size w w' ∧ OwnE2 w' w.heap.size w'.heap.size a a' G
theorem OwnTxP.writes {w w' : World} {P : Nat → Prop} {lo hi : Nat} {a : Option Addr} {n : Nat} {T : Nat → Tx} (h : OwnTxP w P a n T) (hw : Writes lo hi w w') (hd : ∀ x, P x → x < lo ∨ hi ≤ x) : OwnTxP w' P a n T :=
  h.keep hw.size fun x hx h1 => hw.block x h1 (hd x hx)
theorem GrTx.putU {base top k : Nat} {w : World} {v : Value} {T : Nat → Tx} (h : GrTx base top w v k T) (j : Nat) (hj : j < k) :
    ∃ g cap, v = .slice (some ⟨g, 0, none⟩) k cap ∧ base ≤ g ∧ g < top ∧ (∀ i, w.frozen? ⟨g, i, none⟩ = false) ∧ ∃ ai ci l h, CTx w g (j * 5) (T j) ai ci ∧ (T j).n ≤ ci ∧ (h = 0 ∨ base ≤ l ∧ h ≤ top) ∧ (g < l ∨ h ≤ g) ∧ OwnUC w l h ai ci (T j).n (T j).U ∧
      ∀ (w1 : World) (t : Tx) (a2 : Option Addr) (c2 lo hi : Nat), w.heap.size ≤ w1.heap.size → (∀ x, base ≤ x → x < top → x ≠ g → (x < l ∨ h ≤ x) → w1.heap[x]? = w.heap[x]?) → (∀ o, (o < j * 5 ∨ j * 5 + 4 < o) → w1.cell? ⟨g, o, none⟩ = w.cell? ⟨g, o, none⟩) →
        (∀ i, w1.frozen? ⟨g, i, none⟩ = w.frozen? ⟨g, i, none⟩) → CTx w1 g (j * 5) t a2 c2 → t.n ≤ c2 → OwnU w1 lo hi a2 t.n t.U → ((l ≤ lo ∧ hi ≤ h) ∨ top ≤ lo) → OwnTxP w1 (fun x => (base ≤ x ∧ x < top) ∨ (top ≤ lo ∧ lo ≤ x ∧ x < hi)) (some ⟨g, 0, none⟩) k (upf T j t) := by
  obtain ⟨h0, A, c, l, h, ho, hv, hd, hc⟩ := h
  have hown := ho
  obtain ⟨h1, ⟨rfl, rfl⟩ | ⟨g, cap, cur, rfl, k1, k2, k3, k4⟩⟩ := ho
  · omega
  have hg := hv g rfl
  have cc : ∀ i j v, i < k → j < 5 → (rcTx (T i) (A i) (c i))[j]? = some v → w.cell? ⟨g, i * 5 + j, none⟩ = some v := fun i j v hi hj hv => by
    rw [hown.cellAt (i * 5 + j) (by omega), rbTx_get T A c k i j hi hj, hv]
  have hC : ∀ i, i < k → CTx w g (i * 5) (T i) (A i) (c i) := fun i hi => ⟨cc i 0 _ hi (by omega) rfl, cc i 1 _ hi (by omega) rfl, cc i 2 _ hi (by omega) rfl, cc i 3 _ hi (by omega) rfl, cc i 4 _ hi (by omega) rfl⟩
  obtain ⟨m1, m2, m3, m4⟩ := hc j hj
  refine ⟨g, cap, rfl, k1, hg, fun i => hown.frozenAt _, A j, c j, l j, h j, hC j hj, m3, m2, m1 g rfl, m4, fun w1 t a2 c2 lo hi hz hw hfar hfr hCt hn hU hlo => ?_⟩
  refine .inr ⟨g, 0, rfl, .inl ⟨k1, hg⟩, by omega, fun i => (hfr i).trans (hown.frozenAt _), fun i => if i = j then (if hi ≤ lo then 0 else lo) else l i, fun i => if i = j then (if hi ≤ lo then 0 else hi) else h i, fun i q hi2 hq hne => ?_, fun i hi2 => ?_⟩
  · by_cases e1 : i = j <;> by_cases e2 : q = j <;> simp only [e1, e2, if_true, if_false]
    · omega
    · have d1 := hd j q hj hq (by omega)
      have d2 := (hc q hq).2.1
      split <;> omega
    · have d1 := hd i j hi2 hj (by omega)
      have d2 := (hc i hi2).2.1
      split <;> omega
    · exact hd i q hi2 hq hne
  · by_cases e : i = j
    · subst e
      simp only [if_true]
      rw [upf_eq, Nat.zero_add]
      refine ⟨?_, fun x x1 x2 => ?_, a2, c2, hCt, hn, ?_⟩
      · have := m1 g rfl
        split <;> omega
      · split at x2 <;> split at x1 <;> omega
      · split
        · obtain ⟨u0, u1 | ⟨b, off, e9, u1, u2, u3⟩⟩ := hU
          · exact ⟨Nat.zero_le _, .inl u1⟩
          · omega
        · exact hU
    · simp only [e, if_false]
      rw [upf_ne _ _ e, Nat.zero_add]
      obtain ⟨n1, n2, n3, n4⟩ := hc i hi2
      have dj := hd i j hi2 hj e
      refine ⟨n1 g rfl, fun x x1 x2 => .inl (by omega), A i, c i, ?_, n3, OwnU_keepTx n4.toU hz fun x x1 x2 x3 => hw x (by omega) (by omega) ?_ (by omega)⟩
      · obtain ⟨g0, g1, g2, g3, g4⟩ := hC i hi2
        have q : ∀ r, r < 5 → w1.cell? ⟨g, i * 5 + r, none⟩ = w.cell? ⟨g, i * 5 + r, none⟩ := fun r hr => hfar _ (by omega)
        exact ⟨(q 0 (by omega)).trans g0, (q 1 (by omega)).trans g1, (q 2 (by omega)).trans g2, (q 3 (by omega)).trans g3, (q 4 (by omega)).trans g4⟩
      · have := n1 g rfl
        omega
theorem own4_none {w : World} {lo : Nat} {a : Option Addr} {S : Nat → Vr} : Own4 w lo w.heap.size a 0 S := ⟨Nat.le_refl _, .inl rfl⟩
theorem VersAt.rest {w : World} {b off n : Nat} {R : Nat → Vr} (h : VersAt w (some ⟨b, off, none⟩) n R) : VersAt w (some ⟨b, off + 4, none⟩) (n - 1) (fun i => R (i + 1)) := by
  rcases h with h | ⟨b', off', e, hl, hc⟩
  · exact .inl (by omega)
  · simp only [Option.some.injEq, Addr.mk.injEq] at e
    obtain ⟨rfl, rfl, -⟩ := e
    refine .inr ⟨b, off + 4, rfl, hl, fun i hi => ?_⟩
    have := hc (i + 1) (by omega)
    rw [show off + (i + 1) * 4 = off + 4 + i * 4 by omega] at this
    exact this
def coS (R : Nat → Vr) (y : Int) (i : Nat) : Vr := if i = 0 then ⟨(R 0).t, y, (R 0).g, (R 0).v⟩ else R i
theorem own4_some {w : World} {lo hi n : Nat} {a : Option Addr} {R : Nat → Vr} (h : Own4 w lo hi a n R) (hp : 0 < n) : ∃ b off, a = some ⟨b, off, none⟩ ∧ lo ≤ b ∧ b < hi ∧ hi ≤ w.heap.size ∧ Row4 w b off n R := by
  obtain ⟨h0, h1 | ⟨b, off, ha, h2, h3, h4⟩⟩ := h
  · omega
  · exact ⟨b, off, ha, h2, h3, h0, h4⟩
def vwB (x o : Int) : Bool := inB x 0 1000000 && inB o 0 999
def avC (n : Nat) (R : Nat → Vr) (x o : Int) : Int := if chF n R = 0 then (if vwB x o = true then 0 else 3) else chF n R
theorem chainViewFault_any (n : Nat) (R : Nat → Vr) (a : Option Addr) (cap : Nat) (x o : Int) (w : World) (hn : n ≤ 9223372036854775807) (h : VersAt w a n R) :
    Calls Tryz.prog 168 #[.slice a n cap, .agg #[.int .i64 x, .int .i64 o]] w fun e w' => e = .returned (.int .i64 (avC n R x o)) ∧ Below w.heap.size w w' := by
  have HA : Hid (VersAt w a n R) := h
  have HV : Hid (avC n R x o = if chF n R = 0 then (if vwB x o = true then 0 else 3) else chF n R) := rfl
  clear h
  generalize avC n R x o = C at *
  go_enter Tryz.func168, Tryz.ntmps168
  go_wp2_with fail
  refine (implChF_any n R a cap _ hn (HA.out.below (below_new _ _))).mono ?_
  rintro e w1 ⟨rfl, hb1⟩
  obtain ⟨q0, q1⟩ := (Box2.new w (.int .i64 x) (.int .i64 o) 122).below hb1
  have HB1 : Hid (Below w.heap.size w w1) := below_then (below_new _ _) hb1
  clear hb1
  by_cases hc : chF n R = 0
  · rw [hc]
    by_cases h1 : inB x 0 1000000 = true
    · by_cases h2 : inB o 0 999 = true
      · have hC : C = 0 := by rw [HV.out, if_pos hc, if_pos (by simp [vwB, h1, h2])]
        subst hC
        go_wp2_with fail
        refine (isAt_any _ _).mono ?_
        rintro e w2 ⟨rfl, rfl⟩
        rw [h1]
        go_wp2_with fail
        refine (within_any _ _ _ _).mono ?_
        rintro e w2 ⟨rfl, rfl⟩
        rw [h2]
        go_wp2_with fail
        go_ret
        exact ⟨rfl, HB1.out⟩
      · have h3 : inB o 0 999 = false := by simpa using h2
        have hC : C = 3 := by rw [HV.out, if_pos hc, if_neg (by simp [vwB, h3])]
        subst hC
        go_wp2_with fail
        refine (isAt_any _ _).mono ?_
        rintro e w2 ⟨rfl, rfl⟩
        rw [h1]
        go_wp2_with fail
        refine (within_any _ _ _ _).mono ?_
        rintro e w2 ⟨rfl, rfl⟩
        rw [h3]
        go_wp2_with fail
        go_ret
        exact ⟨rfl, HB1.out⟩
    · have h3 : inB x 0 1000000 = false := by simpa using h1
      have hC : C = 3 := by rw [HV.out, if_pos hc, if_neg (by simp [vwB, h3])]
      subst hC
      go_wp2_with fail
      refine (isAt_any _ _).mono ?_
      rintro e w2 ⟨rfl, rfl⟩
      rw [h3]
      go_wp2_with fail
      go_ret
      exact ⟨rfl, HB1.out⟩
  · have hC : C = chF n R := by rw [HV.out, if_neg hc]
    rw [← hC]
    rw [← hC] at hc
    clear HV hC
    have hc1 : (C != 0) = true := by simp [hc]
    go_wp2_with fail
    go_ret
    exact ⟨rfl, HB1.out⟩
end Go.Proofs.YtjdodbiphijjgaaGreat
