/- Pages that are appended one by one; impl.pagesOf. -/
import Derived.Test.YtldnfiadafmomaaShs
namespace Go.Proofs.Ytldnfiadafmomaa
open Go.RowKit Go.Deep
set_option linter.unusedVariables false
set_option maxRecDepth 20000

theorem wpList_store_new {P : Program} {ops : Array Oper} {rest : List Oper} {op : Oper} {a : Act} {w : World} {Q : Exit → Act → World → Prop} (hgd : op.guard = none) (t : TypeId) (x y : Operand) (ho : op.op = .store t x y)
    (c cs : Array Value) (hx : a.eval x = .pointer (some ⟨w.heap.size, 0, none⟩)) (hy : a.eval y = .agg cs) (hi : (P.info? t).map (·.size) = some cs.size) (hc : c.size = cs.size) (h1 : cs.all (·.oneCell') = true)
    (h : wpList P ops Q rest (a.put op.dst undef) (w.alloc (.cells cs t))) : wpList P ops Q (op :: rest) a (w.alloc (.cells c t)) :=
  wpList_plain hgd fun _ hK => by
    unfold Oper.wp execOp
    simp only [ho, hx, hy, run_storeAt_new w t c cs hi hc h1, Sem.run_bind, Sem.run_pure, Result.andThen_ok]
    exact hK _ _ h
/-- The values of k slices of bytes. -/
def slv (g : Nat → Nat) (L : Nat → Nat) (c : Nat → Nat) (k : Nat) : List Value := (List.range k).map fun i => .slice (some ⟨g i, 0, none⟩) (L i) (c i)
theorem slv_get (g L c : Nat → Nat) (k i : Nat) (h : i < k) : (slv g L c k)[i]? = some (.slice (some ⟨g i, 0, none⟩) (L i) (c i)) := by simp [slv, h]
theorem slv_succ (g L c : Nat → Nat) (k : Nat) : slv g L c (k + 1) = slv g L c k ++ [.slice (some ⟨g k, 0, none⟩) (L k) (c k)] := by simp [slv, List.range_succ]
theorem slv_congr {g g' L c c' : Nat → Nat} {k : Nat} (h1 : ∀ i, i < k → g i = g' i) (h2 : ∀ i, i < k → c i = c' i) : slv g L c k = slv g' L c' k := by
  refine List.map_congr_left fun i hi => ?_
  rw [h1 i (List.mem_range.1 hi), h2 i (List.mem_range.1 hi)]
/-- k pages were appended to an empty list, all from block 'base' on. -/
def AP (base : Nat) (wr : World) (v : Value) (k : Nat) (L : Nat → Nat) (Z : Nat → Nat → Int) : Prop :=
  ∃ g c : Nat → Nat, wr.ownsRow base 55 1 v k (slv g L c k) ∧ (∀ i j, i < k → j < k → g i = g j → i = j) ∧
    ∀ i, i < k → base ≤ g i ∧ g i < wr.heap.size ∧ v.ownBlock ≠ some (g i) ∧ Row1 wr (g i) 0 (L i) (Z i) ∧ L i ≤ c i
theorem AP.nil (base : Nat) (w : World) (L : Nat → Nat) (Z : Nat → Nat → Int) : AP base w (.slice none 0 0) 0 L Z :=
  ⟨fun _ => 0, fun _ => 0, World.ownsRow_nil _ _ _ _, fun i j h => by omega, fun i h => by omega⟩
theorem AP.below {base : Nat} {w w' : World} {v : Value} {k : Nat} {L : Nat → Nat} {Z : Nat → Nat → Int} (h : AP base w v k L Z) (hb : Below w.heap.size w w') : AP base w' v k L Z := by
  obtain ⟨g, c, ho, hj, hc⟩ := h
  refine ⟨g, c, own_below ho hb, hj, fun i hi => ?_⟩
  obtain ⟨h1, h2, h3, h4, h5⟩ := hc i hi
  exact ⟨h1, Nat.lt_of_lt_of_le h2 hb.size, h3, h4.block (hb.block _ h2), h5⟩
/-- A page that was just made is appended. -/
theorem AP.step {base G C g' cap' : Nat} {w1 w2 : World} {v : Value} {k : Nat} {L : Nat → Nat} {Z : Nat → Nat → Int} {o : Obj} {g c : Nat → Nat} (hj : ∀ i j, i < k → j < k → g i = g j → i = j)
    (hc : ∀ i, i < k → base ≤ g i ∧ g i < w1.heap.size ∧ v.ownBlock ≠ some (g i) ∧ Row1 w1 (g i) 0 (L i) (Z i) ∧ L i ≤ c i)
    (hG0 : base ≤ G) (hG1 : G < w1.heap.size) (hG2 : v.ownBlock ≠ some G) (hne : ∀ i, i < k → g i ≠ G) (hr : Row1 w1 G 0 (L k) (Z k)) (hC : L k ≤ C)
    (ho : w2.ownsRow base 55 1 (.slice (some ⟨g', 0, none⟩) (k + 1) cap') (k + 1) (slv g L c k ++ [.slice (some ⟨G, 0, none⟩) (L k) C]))
    (hg : (w1.alloc o).grownBy w2 v.ownBlock) (hl : v.ownBlock = some g' ∨ g' = w1.heap.size + 1) : AP base w2 (.slice (some ⟨g', 0, none⟩) (k + 1) cap') (k + 1) L Z := by
  have hsz : w1.heap.size + 1 ≤ w2.heap.size := by have := hg.size; rw [World.size_alloc] at this; exact this
  have keep : ∀ q, q < w1.heap.size → v.ownBlock ≠ some q → w2.heap[q]? = w1.heap[q]? := fun q hq hv => (hg.block q (by rw [World.size_alloc]; omega) (fun e => hv e.symm)).trans (Below.heap_alloc _ _ _ hq)
  have far : ∀ q, q < w1.heap.size → v.ownBlock ≠ some q → (Value.slice (some ⟨g', 0, none⟩) (k + 1) cap').ownBlock ≠ some q := fun q hq hv e => by
    simp only [Value.ownBlock, Option.some.injEq] at e
    rcases hl with hl | hl
    · exact hv (by rw [hl, e])
    · omega
  refine ⟨fun i => if i < k then g i else G, fun i => if i < k then c i else C, ?_, fun i j hi hj' e => ?_, fun i hi => ?_⟩
  · rw [slv_succ]
    simp only [Nat.lt_irrefl, if_false]
    rw [slv_congr (g' := g) (c' := c) (fun i hi => by simp [hi]) (fun i hi => by simp [hi])]
    exact ho
  · by_cases c1 : i < k <;> by_cases c2 : j < k <;> simp only [c1, c2, if_true, if_false] at e
    · exact hj i j c1 c2 e
    · exact absurd e (hne i c1)
    · exact absurd e.symm (hne j c2)
    · omega
  · by_cases c1 : i < k
    · simp only [c1, if_true]
      obtain ⟨h1, h2, h3, h4, h5⟩ := hc i c1
      exact ⟨h1, by omega, far _ h2 h3, h4.block (keep _ h2 h3), h5⟩
    · have : i = k := by omega
      subst this
      simp only [Nat.lt_irrefl, if_false]
      exact ⟨hG0, by omega, far _ hG1 hG2, hr.block (keep _ hG1 hG2), hC⟩
theorem AP.own {base : Nat} {w : World} {v : Value} {n : Nat} {L : Nat → Nat} {Z : Nat → Nat → Int} (h : AP base w v n L Z) : ∃ a cap, v = .slice a n cap ∧ n ≤ cap ∧ OwnP w base w.heap.size a n L Z := by
  obtain ⟨g, c, hown, hj, hc⟩ := h
  by_cases h0 : n = 0
  · subst h0
    rcases hown.2 with ⟨rfl, _⟩ | ⟨q, cap, cur, rfl, _, _, hcap, _⟩
    · exact ⟨none, 0, rfl, Nat.le_refl _, Nat.le_refl _, .inl rfl⟩
    · exact ⟨_, cap, rfl, hcap, Nat.le_refl _, .inl rfl⟩
  · rcases hown.2 with ⟨rfl, h1⟩ | ⟨q, cap, cur, rfl, hbq, hq, hcap, _⟩
    · omega
    · have hlt : q < w.heap.size := by
        obtain ⟨hlt, _⟩ := Array.getElem?_eq_some_iff.1 hq
        exact hlt
      refine ⟨_, cap, rfl, hcap, Nat.le_refl _, .inr ⟨q, 0, rfl, hbq, hlt, g, fun _ => 0, c, hj, fun i hi => ?_⟩⟩
      obtain ⟨h1, h2, h3, h4, h5⟩ := hc i hi
      refine ⟨fun e => h3 (by simp [Value.ownBlock, e]), h1, h2, ?_, h4, h5⟩
      rw [Nat.zero_add, hown.cellAt i (by omega), slv_get _ _ _ _ _ hi]
set_option maxHeartbeats 800000 in
theorem pagesOf_any (n : Nat) (Z : Nat → Nat → Int) (b cap : Nat) (w : World) (hn : n ≤ 8) (hbl : b < w.heap.size) (hr : ∀ i, i < n → w.rangeAt b (i * 48) (bvs (Z i) 48)) :
    Calls Try.prog 22 #[.slice (some ⟨b, 0, none⟩) n cap] w fun e w' => ∃ v, e = .returned v ∧ Below w.heap.size w w' ∧ AP w.heap.size w' v n (fun _ => 48) Z := by
  obtain ⟨i0, hi, hz0, hz1, hz2⟩ := info_parts info22
  have HI : Hid (Try.prog.info? 55 = some i0 ∧ i0.zero = some (.slice none 0 0) ∧ i0.size = 1 ∧ i0.bytes = 24) := ⟨hi, hz0, hz1, hz2⟩
  have HR : Hid (∀ i, i < n → w.rangeAt b (i * 48) (bvs (Z i) 48)) := hr
  clear hi hz0 hz1 hz2 hr
  go_enter Try.func22, Try.ntmps22
  go_wp2_with fail
  go_loopw [3, 5, 8] (fun v _ i wr => ∃ k : Nat, k ≤ n ∧ i = .int .i64 k ∧ Below w.heap.size w wr ∧ AP w.heap.size wr v k (fun _ => 48) Z) (fun _ _ i _ => n - (intOf i).toNat)
  case atStart => exact ⟨0, by omega, rfl, Below.refl _ _, AP.nil _ _ _ _⟩
  case round =>
    obtain ⟨k, hk, rfl, hb, ho⟩ := hrel
    by_cases hlt : k < n
    · have HO : Hid (AP w.heap.size wr u3 k (fun _ => 48) Z) := ho
      have HB : Hid (Below w.heap.size w wr) := hb
      have HRk : Hid (wr.rangeAt b (k * 48) (bvs (Z k) 48)) := fun j v hv => (hb.cell (p := ⟨b, _, none⟩) hbl).trans (HR.out k hlt j v hv)
      have hlt' : (k : Int) < (n : Int) := by omega
      clear ho hb
      go_wp2_with (first | (refine wpList_load_mid (by rfl) 66 (.tmp 10) (by rfl) b (k * 48) (by rfl) (bvs (Z k) 48) _ HRk.out Try.underlying66 rfl (by rw [size147, bvs_len]) ?_) | (refine wpList_store_new (by rfl) 66 (.tmp 5) (.tmp 11) (by rfl) (zeros 48).toArray (bvs (Z k) 48).toArray (by rfl) (by rfl) (by rw [size147, bvs_size]) (by rw [bvs_size, zeros_size]) (all_oneCell_toArray (bvs_one _ _)) ?_) | (refine wpList_load_mid (by rfl) 66 (.tmp 5) (by rfl) wr.heap.size 0 (by rfl) (bvs (Z k) 48) _ (range_block (heap_alloc_last _ _)) Try.underlying66 rfl (by rw [size147, bvs_len]) ?_))
      refine (shBytes_any (Z k) _).mono ?_
      rintro e w1 ⟨G, C, rfl, hb1, hG0, hG1, hrow, hC⟩
      rw [World.size_alloc] at hG0
      have hbw : Below wr.heap.size wr w1 := below_then (below_new _ _) hb1
      have hwr : w.heap.size ≤ wr.heap.size := HB.out.size
      have HB1 : Hid (Below w.heap.size w w1) := below_then HB.out hbw
      obtain ⟨g, c, hown, hj, hc⟩ := HO.out
      have HV : Hid (∀ q, u3.ownBlock = some q → w.heap.size ≤ q ∧ q < wr.heap.size) := fun q hq => hown.lt q hq
      have HOW : Hid (w1.ownsRow w.heap.size 55 1 u3 k (slv g (fun _ => 48) c k)) := own_below hown hbw
      have HJ : Hid (∀ i j, i < k → j < k → g i = g j → i = j) := hj
      have HCC : Hid (∀ i, i < k → w.heap.size ≤ g i ∧ g i < w1.heap.size ∧ u3.ownBlock ≠ some (g i) ∧ Row1 w1 (g i) 0 48 (Z i) ∧ 48 ≤ c i) := fun i hi => by
        obtain ⟨h1, h2, h3, h4, h5⟩ := hc i hi
        exact ⟨h1, Nat.lt_of_lt_of_le h2 hbw.size, h3, h4.block (hbw.block _ h2), h5⟩
      have HNE : Hid (∀ i, i < k → g i ≠ G) := fun i hi => by have := (hc i hi).2.1; omega
      have HG : Hid (w.heap.size ≤ G ∧ G < w1.heap.size ∧ u3.ownBlock ≠ some G ∧ Row1 w1 G 0 48 (Z k) ∧ 48 ≤ C) := ⟨by omega, hG1, fun e => by have := (hown.lt G e).2; omega, hrow, hC⟩
      clear hb1 hG0 hG1 hrow hC hbw hown hj hc HO HRk
      go_wp2_with (at_builtin; refine wpList_append_lies _ rfl (.tmp 12) (.tmp 15) 22 rfl w.heap.size 55 i0 (.slice none 0 0) 1 24 Try.underlying22 HI.out.1 HI.out.2.1 HI.out.2.2.1 HI.out.2.2.2 rfl (by decide) _ k (slv g (fun _ => 48) c k) rfl (HOW.out.alloc _) ⟨w1.heap.size, 0, none⟩ 1 1 [.slice (some ⟨G, 0, none⟩) 48 C] rfl rfl (cell_one_new _ _ _) ?c2 (by decide) ?c3 ?c4 ?c5 _ rfl ?_)
      case c2 => intro u hu; simp at hu; subst hu; rfl
      case c3 => unfold maxLen; omega
      case c4 => omega
      case c5 => have := HB1.out.size; rw [World.size_alloc]; omega
      intro g' cap' w2 ho2 hg2 hl2 hlt2
      have HA2 : Hid (AP w.heap.size w2 (.slice (some ⟨g', 0, none⟩) (k + 1) cap') (k + 1) (fun _ => 48) Z) :=
        AP.step HJ.out HCC.out HG.out.1 HG.out.2.1 HG.out.2.2.1 HNE.out HG.out.2.2.2.1 HG.out.2.2.2.2 ho2 hg2 hl2
      have HB2 : Hid (Below w.heap.size w w2) := Below.grown (HB1.out.alloc HB1.out.size _) hg2 (by rw [World.size_alloc]; have := HB1.out.size; omega) (fun q hq => (HV.out q hq).1)
      clear ho2 hg2 hl2 hlt2
      go_wp2_with fail
      go_roundw
      case rel => exact ⟨k + 1, hlt, by go_num, HB2.out, HA2.out⟩
      case measure => simp [intOf]; omega
    · have hkn : k = n := by omega
      have HO : Hid (AP w.heap.size wr u3 n (fun _ => 48) Z) := by have h := ho; rw [hkn] at h; exact h
      clear ho
      go_wp2_with fail
      go_ret
      exact ⟨_, rfl, hb, HO.out⟩
end Go.Proofs.Ytldnfiadafmomaa
