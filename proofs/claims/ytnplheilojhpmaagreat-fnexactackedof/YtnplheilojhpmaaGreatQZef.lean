/- A number put into a list that rises (spec.l1Rise); numbers appended, whatever slice they lie in. -/
import Derived.Test.YtnplheilojhpmaaGreatQTni
import Derived.Deep.RegionLaw
namespace Go.Proofs.YtnplheilojhpmaaGreat
open Go.RowKit Go.Deep
set_option linter.unusedVariables false
set_option maxRecDepth 20000

theorem il_one (zs : List Int) : ∀ u ∈ il zs, u.oneCell' = true := by
  intro u hu
  simp only [il, List.mem_map] at hu
  obtain ⟨z, -, rfl⟩ := hu
  rfl
def zLn (z : Nat → Int) (n : Nat) : List Int := (List.range n).map z
theorem zLn_len (z : Nat → Int) (n : Nat) : (zLn z n).length = n := by simp [zLn]
theorem own_capN {w : World} {base : Nat} {a : Option Addr} {n cap : Nat} {xs : List Value} (h : w.ownsRow base 2 1 (.slice a n cap) n xs) : n ≤ cap := by
  rcases h.2 with ⟨e, h0⟩ | ⟨g, c, cur, e, _, _, hnc, _⟩
  · omega
  · simp only [Value.slice.injEq] at e
    omega
theorem info_partsN {P : Program} {t : TypeId} {z : Value} {s b : Nat} (h : (P.info? t).map (fun i => (i.zero, i.size, i.bytes)) = some (some z, s, b)) : ∃ i, P.info? t = some i ∧ i.zero = some z ∧ i.size = s ∧ i.bytes = b := by
  obtain ⟨i, hi, hzz⟩ := Option.map_eq_some_iff.1 h
  simp only [Prod.mk.injEq] at hzz
  exact ⟨i, hi, hzz.1, hzz.2.1, hzz.2.2⟩
theorem zLn_zI (zs : List Int) : zLn (zI zs) zs.length = zs := by
  apply List.ext_getElem
  · simp [zLn]
  · intro i h1 h2
    simp [zLn, zI, h2]
theorem run_app_zeroI (w : World) (ty : TypeId) (ba : Option Addr) (n c : Nat) (xa : Option Addr) (xc : Nat) (h : n ≤ c) :
    (Builtin.append_ #[31, 31] ty #[.slice ba n c, .slice xa 0 xc]).run Tryz.prog w = .ok (.slice ba n c) w := by
  cases ba <;> cases xa <;> simp [Builtin.append_, go_sem, h, Builtin.firstCells, storeCells]
theorem grown_refln (w : World) (r : Option Nat) : w.grownBy w r := ⟨rfl, rfl, rfl, Nat.le_refl _, fun _ _ _ => rfl⟩
theorem zLn_il (z : Nat → Int) (n : Nat) : ∀ j u, (il (zLn z n))[j]? = some u → j < n ∧ u = .int .i64 (z j) := by
  intro j u h
  have hj : j < n := by
    have := (List.getElem?_eq_some_iff.1 h).1
    simpa [il, zLn] using this
  simp [il, zLn, hj] at h
  exact ⟨hj, h.symm⟩
theorem wp_appN {o : Oper} {a : Act} {K : Act → World → Prop} {Q : Exit → Act → World → Prop} (w : World) (s x : Operand)
    (ho : o.op = .call { callee := .builtin .append, args := #[s, x], argTypes := #[31, 31] })
    (base : Nat) (v : Value) (zs : List Int) (hs : a.eval s = v) (hown : w.ownsRow base 2 1 v zs.length (il zs))
    (xa : Option Addr) (m c : Nat) (z : Nat → Int) (hx : a.eval x = .slice xa m c) (hb : IntsAt w xa m z) (h63 : zs.length + m ≤ 100000) (hbase : base ≤ w.heap.size)
    (h : ∀ v' w', w'.ownsRow base 2 1 v' (zs ++ zLn z m).length (il (zs ++ zLn z m)) → w.grownBy w' v.ownBlock → K (a.put o.dst v') w') : o.wp Tryz.prog a w K Q := by
  by_cases hm : m = 0
  · subst hm
    obtain ⟨ba, cap, rfl⟩ : ∃ ba cap, v = .slice ba zs.length cap := by
      rcases hown.2 with ⟨rfl, h0⟩ | ⟨g, cap, cur, rfl, _⟩
      · exact ⟨none, 0, by rw [h0]⟩
      · exact ⟨_, cap, rfl⟩
    have hr := run_app_zeroI w o.type ba zs.length cap xa c (own_capN hown)
    unfold Oper.wp execOp
    simp only [ho, resolve, invoke, builtin, Sem.run_bind, Sem.run_pure, Result.andThen_ok, List.map_toArray, List.map_cons, List.map_nil, hs, hx, hr]
    refine h _ w ?_ (grown_refln _ _)
    have e : zs ++ zLn z 0 = zs := by simp [zLn]
    rw [e]
    exact hown
  · rcases hb with hb | ⟨b, off, rfl, hbl, hc⟩
    · exact absurd hb hm
    · obtain ⟨i0, hi, hz0, hz1, hz2⟩ := info_partsN info2
      refine wp_append_own w s x 31 ho base 2 i0 _ 1 8 Tryz.underlying31 hi hz0 hz1 hz2 rfl (by decide) v zs.length (il zs) hs hown ⟨b, off, none⟩ m c (il (zLn z m)) hx (by rw [il_len, zLn_len]; omega) (fun j u hj => ?_) (il_one _) (by unfold maxLen; omega) (by omega) hbase fun v' w' h2 h3 _ => h v' w' ?_ h3
      · obtain ⟨h1, rfl⟩ := zLn_il z m j u hj
        rw [WideShapes.add_plain]
        exact hc j h1
      · rw [List.length_append, zLn_len, il_app]
        exact h2
theorem step_appN {ops : Array Oper} {o : Oper} {a : Act} {K : Act → World → Prop} {Q : Exit → Act → World → Prop} {E : Prop} (w : World) (hgd : o.guard = none) (s x : Operand)
    (ho : o.op = .call { callee := .builtin .append, args := #[s, x], argTypes := #[31, 31] })
    (base : Nat) (v : Value) (zs : List Int) (hs : a.eval s = v) (hown : w.ownsRow base 2 1 v zs.length (il zs))
    (xa : Option Addr) (m c : Nat) (z : Nat → Int) (hx : a.eval x = .slice xa m c) (hb : IntsAt w xa m z) (h63 : zs.length + m ≤ 100000) (hbase : base ≤ w.heap.size)
    (h : ∀ v' w', w'.ownsRow base 2 1 v' (zs ++ zLn z m).length (il (zs ++ zLn z m)) → w.grownBy w' v.ownBlock → K (a.put o.dst v') w') :
    if Region.wanted o (yielded ops a.tmps) = true then Oper.wp Tryz.prog o a w K Q else E := by
  have hw : Region.wanted o (yielded ops a.tmps) = true := by simp [Region.wanted, hgd]
  rw [if_pos hw]
  exact wp_appN w s x ho base v zs hs hown xa m c z hx hb h63 hbase h
/-! ### a number put into a list that rises -/
def ri : List Int → Int → List Int
  | [], v => [v]
  | x :: r, v => if x < v then x :: ri r v else if x = v then x :: r else v :: x :: r
theorem zLn_cons (z : Nat → Int) (n : Nat) : zLn z (n + 1) = z 0 :: zLn (fun i => z (i + 1)) n := by
  simp only [zLn, List.range_succ_eq_map, List.map_cons, List.map_map]; rfl
theorem ri_there : ∀ (k n : Nat) (z : Nat → Int) (v : Int), (∀ i, i < k → z i < v) → k < n → z k = v → ri (zLn z n) v = zLn z n
  | 0, n + 1, z, v, _, _, h => by rw [zLn_cons]; simp only [ri]; rw [if_neg (by omega), if_pos h]
  | k + 1, n + 1, z, v, h1, h2, h3 => by
    rw [zLn_cons]; simp only [ri]
    rw [if_pos (h1 0 (by omega)), ri_there k n (fun i => z (i + 1)) v (fun i hi => h1 (i + 1) (by omega)) (by omega) h3]
  | k, 0, z, v, _, h, _ => by omega
theorem ri_not : ∀ (k n : Nat) (z : Nat → Int) (v : Int), (∀ i, i < k → z i < v) → k ≤ n → (k < n → ¬ z k < v ∧ z k ≠ v) → ri (zLn z n) v = zLn z k ++ [v] ++ zLn (fun i => z (k + i)) (n - k)
  | 0, 0, z, v, _, _, h => by simp [zLn, ri]
  | 0, n + 1, z, v, _, _, h => by
    rw [zLn_cons]; simp only [ri]
    have h' := h (by omega)
    rw [if_neg h'.1, if_neg h'.2]
    simp only [zLn, List.range_zero, List.map_nil, List.nil_append, Nat.sub_zero, List.cons_append, Nat.zero_add]
    rw [List.range_succ_eq_map, List.map_cons, List.map_map]; rfl
  | k + 1, n + 1, z, v, h1, h2, h3 => by
    rw [zLn_cons, zLn_cons]; simp only [ri]
    rw [if_pos (h1 0 (by omega)), ri_not k n (fun i => z (i + 1)) v (fun i hi => h1 (i + 1) (by omega)) (by omega) (fun h => h3 (by omega))]
    rw [show n + 1 - (k + 1) = n - k by omega]
    simp only [List.cons_append]
    congr 2
    apply congrArg (fun f => zLn f (n - k))
    funext i
    rw [show k + 1 + i = k + i + 1 by omega]
  | k + 1, 0, z, v, _, h, _ => by omega
theorem ri_len : ∀ (l : List Int) (v : Int), (ri l v).length ≤ l.length + 1
  | [], v => by simp [ri]
  | x :: r, v => by
    simp only [ri]
    have := ri_len r v
    split
    · simp; omega
    · split <;> simp
/-- Behind the first append: what was put up for the second one is still there. -/
theorem rise_one {w w0 w6 : World} {p : Nat} (hb : Below w.heap.size w w0) (hp : w.heap.size ≤ p) (hg : w0.grownBy w6 (some p)) : Below w.heap.size w w6 ∧ ∀ q u, q ≠ p → w0.cell? ⟨q, 0, none⟩ = some u → w6.cell? ⟨q, 0, none⟩ = some u := by
  refine ⟨hb.grown hg hb.size (fun x hx => by simp at hx; omega), fun q u hq hc => ?_⟩
  have hl : q < w0.heap.size := Go.block_lt_of_cell hc
  exact (World.cell?_of_block (w := w0) (a := ⟨q, _, none⟩) (hg.block q hl (by intro e; simp at e; exact hq e))).trans hc
def RiRes (l : List Int) (v : Int) (b off cap : Nat) (w : World) (e : Ending) (w' : World) : Prop :=
  (e = .returned (.slice (some ⟨b, off, none⟩) l.length cap) ∧ w' = w ∧ ri l v = l) ∨ ∃ u, e = .returned u ∧ Below w.heap.size w w' ∧ w'.ownsRow w.heap.size 2 1 u (ri l v).length (il (ri l v))
theorem own_downI {w : World} {base base' n s : Nat} {e : TypeId} {v : Value} {xs : List Value} (h : w.ownsRow base e s v n xs) (hb : base' ≤ base) : w.ownsRow base' e s v n xs := by
  obtain ⟨h1, h2 | ⟨g, cap, cur, rfl, k1, k2, k3⟩⟩ := h
  · exact ⟨h1, .inl h2⟩
  · exact ⟨h1, .inr ⟨g, cap, cur, rfl, Nat.le_trans hb k1, k2, k3⟩⟩
theorem own_litI (w : World) : (w.alloc (.cells #[] 2)).ownsRow w.heap.size 2 1 (.slice (some ⟨w.heap.size, 0, none⟩) 0 0) ([] : List Int).length (il []) :=
  World.ownsRow_made w #[] (e := 2) (size := 1) (base := w.heap.size) 0 (Nat.le_refl _) (by unfold maxLen; omega) rfl
theorem rise_two {w w1 w9 : World} {v6 : Value} {zs : List Int} (hb : Below w.heap.size w w1) (ho : w1.ownsRow w.heap.size 2 1 v6 zs.length (il zs)) (hg : w1.grownBy w9 v6.ownBlock) : Below w.heap.size w w9 := hb.grown hg hb.size fun q hq => (ownI_lt ho q hq).1
theorem row_nil {w : World} {B : Nat} {v : Value} {zs : List Int} (h : w.ownsRow B 2 1 v ([] ++ zs).length (il ([] ++ zs))) : w.ownsRow B 2 1 v zs.length (il zs) := by simpa using h
/-- What lies ahead of the first append, by the three orders. -/
theorem rise_at (w : World) (v : Int) :
    ((w.alloc (.cells #[] 2)).drew.ownsRow w.heap.size 2 1 (.slice (some ⟨w.heap.size, 0, none⟩) 0 0) ([] : List Int).length (il []) ∧ Below w.heap.size w (w.alloc (.cells #[] 2)).drew) ∧
    (((w.alloc (.cells #[] 2)).alloc (.cells #[.int .i64 v] 2)).drew.ownsRow w.heap.size 2 1 (.slice (some ⟨w.heap.size, 0, none⟩) 0 0) ([] : List Int).length (il []) ∧ Below w.heap.size w ((w.alloc (.cells #[] 2)).alloc (.cells #[.int .i64 v] 2)).drew ∧ ((w.alloc (.cells #[] 2)).alloc (.cells #[.int .i64 v] 2)).drew.cell? ⟨w.heap.size + 1, 0, none⟩ = some (.int .i64 v)) ∧
    (((w.alloc (.cells #[.int .i64 v] 2)).alloc (.cells #[] 2)).drew.ownsRow w.heap.size 2 1 (.slice (some ⟨w.heap.size + 1, 0, none⟩) 0 0) ([] : List Int).length (il []) ∧ Below w.heap.size w ((w.alloc (.cells #[.int .i64 v] 2)).alloc (.cells #[] 2)).drew ∧ ((w.alloc (.cells #[.int .i64 v] 2)).alloc (.cells #[] 2)).drew.cell? ⟨w.heap.size, 0, none⟩ = some (.int .i64 v)) := by
  have h3 := own_litI (w.alloc (.cells #[.int .i64 v] 2))
  rw [World.size_alloc] at h3
  refine ⟨⟨ownI_keep (own_litI w) fun q hq => rfl, (below_new _ _).drew⟩, ⟨ownI_keep (own_belowI (own_litI w) (below_new _ _)) fun q hq => rfl, (below_then (below_new _ _) (below_new _ _)).drew, ?_⟩, ⟨own_downI (ownI_keep h3 fun q hq => rfl) (by omega), (below_then (below_new _ _) (below_new _ _)).drew, ?_⟩⟩
  · have h : ((w.alloc (.cells #[] 2)).alloc (.cells #[.int .i64 v] 2)).cell? ⟨w.heap.size + 1, 0, none⟩ = some (.int .i64 v) := by simp [go_sem]
    exact h
  · have h : ((w.alloc (.cells #[.int .i64 v] 2)).alloc (.cells #[] 2)).cell? ⟨w.heap.size, 0, none⟩ = some (.int .i64 v) := by simp [go_sem]
    exact h
set_option maxHeartbeats 4000000 in
theorem l1Rise_some (n b off cap : Nat) (z : Nat → Int) (v : Int) (w : World) (hn : n ≤ 90000) (hnc : n ≤ cap) (hbl : b < w.heap.size) (hc : ∀ i, i < n → w.cell? ⟨b, off + i, none⟩ = some (.int .i64 (z i))) :
    Calls Tryz.prog 53 #[.slice (some ⟨b, off, none⟩) n cap, .int .i64 v] w (RiRes (zLn z n) v b off cap w) := by
  have HC : Hid (∀ i, i < n → w.cell? ⟨b, off + i, none⟩ = some (.int .i64 (z i))) := hc
  clear hc
  go_enter Tryz.func53, Tryz.ntmps53
  go_wp2_with fail
  go_loop [5] (fun i => ∃ k : Nat, k ≤ n ∧ i = .int .i64 k ∧ Hid (∀ i, i < k → z i < v)) (fun i => n - (intOf i).toNat)
  case atStart => exact ⟨0, Nat.zero_le _, rfl, fun i hi => by omega⟩
  case round =>
    obtain ⟨k, hk, rfl, HN⟩ := hrel
    have hk0 : (0 : Int) ≤ (k : Int) := by omega
    have hkn' : (k : Int) ≤ (n : Int) := by omega
    have hkc' : (k : Int) ≤ (cap : Int) := by omega
    have hnc' : (n : Int) ≤ (cap : Int) := by omega
    by_cases hlt : k < n
    · have hlt' : (k : Int) < (n : Int) := by omega
      have lx := HC.out k hlt
      by_cases h1 : z k < v
      · have HN2 : Hid (∀ i, i < k + 1 → z i < v) := fun i hi => by
          by_cases q : i = k
          · subst q; exact h1
          · exact HN.out i (by omega)
        generalize z k = zk at *
        go_wp2_with fail
        go_round
        case rel => exact ⟨k + 1, hlt, by go_num, HN2⟩
        case measure => simp [intOf]; omega
      · by_cases h2 : z k = v
        · have HF : Hid (RiRes (zLn z n) v b off cap w (.returned (.slice (some ⟨b, off, none⟩) n cap)) w) := .inl ⟨by rw [zLn_len], rfl, ri_there k n z v HN.out hlt h2⟩
          have h2' : (z k == v) = true := by simpa using h2
          generalize z k = zk at *
          go_wp2_with fail
          go_ret
          exact HF.out
        · have HR : Hid (ri (zLn z n) v = zLn z k ++ [v] ++ zLn (fun i => z (k + i)) (n - k)) := ri_not k n z v HN.out hk (fun _ => ⟨h1, h2⟩)
          have h2' : (z k == v) = false := by simpa using h2
          generalize z k = zk at *
          go_upto_region 6 with fail
          have HX1 : Hid (IntsAt w (some ⟨b, off, none⟩) k z) := .inr ⟨b, off, rfl, hbl, fun i hi => HC.out i (by omega)⟩
          have HX3 : Hid (IntsAt w (if cap = k then some ⟨b, off, none⟩ else some ⟨b, off + k, none⟩) (n - k) (fun i => z (k + i))) := by
            show IntsAt _ _ _ _
            by_cases q : cap = k
            · exact .inl (by omega)
            · rw [if_neg q]
              refine .inr ⟨b, off + k, rfl, hbl, fun i hi => ?_⟩
              have := HC.out (k + i) (by omega)
              rw [← Nat.add_assoc] at this
              exact this
          have RA := rise_at w v
          have HL1 : Hid (([] : List Int).length + k ≤ 100000) := by show ([] : List Int).length + k ≤ 100000; simp; omega
          have HL2 : Hid ((zLn z k).length ≤ 100000) := by show (zLn z k).length ≤ 100000; rw [zLn_len]; omega
          have HL3 : Hid ((zLn z k ++ [v]).length + (n - k) ≤ 100000) := by show (zLn z k ++ [v]).length + (n - k) ≤ 100000; simp [zLn_len]; omega
          go_region_law (first
            | (refine step_appN (w.alloc (.cells #[] 2)).drew rfl (.tmp 33) (.tmp 36) rfl w.heap.size (.slice (some ⟨w.heap.size, 0, none⟩) 0 0) [] rfl RA.1.1 (some ⟨b, off, none⟩) k cap z rfl (HX1.out.below RA.1.2) HL1.out RA.1.2.size ?_; intro v6 w6 ho6 hg6; have FA := rise_one RA.1.2 (Nat.le_refl _) hg6; have O6 := row_nil ho6; clear hg6 ho6)
            | (refine step_appN ((w.alloc (.cells #[] 2)).alloc (.cells #[.int .i64 v] 2)).drew rfl (.tmp 33) (.tmp 36) rfl w.heap.size (.slice (some ⟨w.heap.size, 0, none⟩) 0 0) [] rfl RA.2.1.1 (some ⟨b, off, none⟩) k cap z rfl (HX1.out.below RA.2.1.2.1) HL1.out RA.2.1.2.1.size ?_; intro v6 w6 ho6 hg6; have FB := rise_one RA.2.1.2.1 (Nat.le_refl _) hg6; have O6 := row_nil ho6; clear hg6 ho6)
            | (refine step_appN ((w.alloc (.cells #[.int .i64 v] 2)).alloc (.cells #[] 2)).drew rfl (.tmp 33) (.tmp 36) rfl w.heap.size (.slice (some ⟨w.heap.size + 1, 0, none⟩) 0 0) [] rfl RA.2.2.1 (some ⟨b, off, none⟩) k cap z rfl (HX1.out.below RA.2.2.2.1) HL1.out RA.2.2.2.1.size ?_; intro v6 w6 ho6 hg6; have FC := rise_one (p := w.heap.size + 1) RA.2.2.2.1 (Nat.le_succ _) hg6; have O6 := row_nil ho6; clear hg6 ho6)
            | (refine step_appI (w6.alloc (.cells #[.int .i64 v] 2)) rfl (.tmp 37) (.tmp 39) rfl w.heap.size v6 (zLn z k) rfl (own_belowI O6 (below_new _ _)) w6.heap.size 0 1 v rfl (by simp [go_sem]) (by have := FA.1.size; simp; omega) HL2.out ?_; intro v9 w9 ho9 hg9; have B9 := rise_two (below_then FA.1 (below_new _ _)) (own_belowI O6 (below_new _ _)) hg9; clear hg9)
            | (refine step_appI w6 rfl (.tmp 37) (.tmp 39) rfl w.heap.size v6 (zLn z k) rfl O6 (w.heap.size + 1) 0 1 v rfl (FB.2 _ _ (by omega) RA.2.1.2.2) FB.1.size HL2.out ?_; intro v9 w9 ho9 hg9; have B9 := rise_two FB.1 O6 hg9; clear hg9)
            | (refine step_appI w6 rfl (.tmp 37) (.tmp 39) rfl w.heap.size v6 (zLn z k) rfl O6 w.heap.size 0 1 v rfl (FC.2 _ _ (by omega) RA.2.2.2.2) FC.1.size HL2.out ?_; intro v9 w9 ho9 hg9; have B9 := rise_two FC.1 O6 hg9; clear hg9)
            | (refine step_appN w9 rfl (.tmp 40) (.tmp 43) rfl w.heap.size v9 (zLn z k ++ [v]) rfl ho9 (if cap = k then some ⟨b, off, none⟩ else some ⟨b, off + k, none⟩) (n - k) (cap - k) (fun i => z (k + i)) rfl (HX3.out.below B9) HL3.out B9.size ?_; intro v12 w12 ho12 hg12; have B12 := rise_two B9 ho9 hg12; clear hg12)
            | fail)
          all_goals go_wp2_with fail
          all_goals go_ret
          all_goals exact .inr ⟨_, rfl, B12, by rw [HR.out]; exact ho12⟩
    · have hkn : k = n := by omega
      have hnl : ¬ ((k : Int) < (n : Int)) := by omega
      have HR : Hid (ri (zLn z n) v = zLn z k ++ [v] ++ zLn (fun i => z (k + i)) (n - k)) := ri_not k n z v HN.out hk (fun h => by omega)
      clear hkn
      go_upto_region 6 with fail
      have HX1 : Hid (IntsAt w (some ⟨b, off, none⟩) k z) := .inr ⟨b, off, rfl, hbl, fun i hi => HC.out i (by omega)⟩
      have HX3 : Hid (IntsAt w (if cap = k then some ⟨b, off, none⟩ else some ⟨b, off + k, none⟩) (n - k) (fun i => z (k + i))) := by
        show IntsAt _ _ _ _
        by_cases q : cap = k
        · exact .inl (by omega)
        · rw [if_neg q]
          refine .inr ⟨b, off + k, rfl, hbl, fun i hi => ?_⟩
          have := HC.out (k + i) (by omega)
          rw [← Nat.add_assoc] at this
          exact this
      have RA := rise_at w v
      have HL1 : Hid (([] : List Int).length + k ≤ 100000) := by show ([] : List Int).length + k ≤ 100000; simp; omega
      have HL2 : Hid ((zLn z k).length ≤ 100000) := by show (zLn z k).length ≤ 100000; rw [zLn_len]; omega
      have HL3 : Hid ((zLn z k ++ [v]).length + (n - k) ≤ 100000) := by show (zLn z k ++ [v]).length + (n - k) ≤ 100000; simp [zLn_len]; omega
      go_region_law (first
        | (refine step_appN (w.alloc (.cells #[] 2)).drew rfl (.tmp 33) (.tmp 36) rfl w.heap.size (.slice (some ⟨w.heap.size, 0, none⟩) 0 0) [] rfl RA.1.1 (some ⟨b, off, none⟩) k cap z rfl (HX1.out.below RA.1.2) HL1.out RA.1.2.size ?_; intro v6 w6 ho6 hg6; have FA := rise_one RA.1.2 (Nat.le_refl _) hg6; have O6 := row_nil ho6; clear hg6 ho6)
        | (refine step_appN ((w.alloc (.cells #[] 2)).alloc (.cells #[.int .i64 v] 2)).drew rfl (.tmp 33) (.tmp 36) rfl w.heap.size (.slice (some ⟨w.heap.size, 0, none⟩) 0 0) [] rfl RA.2.1.1 (some ⟨b, off, none⟩) k cap z rfl (HX1.out.below RA.2.1.2.1) HL1.out RA.2.1.2.1.size ?_; intro v6 w6 ho6 hg6; have FB := rise_one RA.2.1.2.1 (Nat.le_refl _) hg6; have O6 := row_nil ho6; clear hg6 ho6)
        | (refine step_appN ((w.alloc (.cells #[.int .i64 v] 2)).alloc (.cells #[] 2)).drew rfl (.tmp 33) (.tmp 36) rfl w.heap.size (.slice (some ⟨w.heap.size + 1, 0, none⟩) 0 0) [] rfl RA.2.2.1 (some ⟨b, off, none⟩) k cap z rfl (HX1.out.below RA.2.2.2.1) HL1.out RA.2.2.2.1.size ?_; intro v6 w6 ho6 hg6; have FC := rise_one (p := w.heap.size + 1) RA.2.2.2.1 (Nat.le_succ _) hg6; have O6 := row_nil ho6; clear hg6 ho6)
        | (refine step_appI (w6.alloc (.cells #[.int .i64 v] 2)) rfl (.tmp 37) (.tmp 39) rfl w.heap.size v6 (zLn z k) rfl (own_belowI O6 (below_new _ _)) w6.heap.size 0 1 v rfl (by simp [go_sem]) (by have := FA.1.size; simp; omega) HL2.out ?_; intro v9 w9 ho9 hg9; have B9 := rise_two (below_then FA.1 (below_new _ _)) (own_belowI O6 (below_new _ _)) hg9; clear hg9)
        | (refine step_appI w6 rfl (.tmp 37) (.tmp 39) rfl w.heap.size v6 (zLn z k) rfl O6 (w.heap.size + 1) 0 1 v rfl (FB.2 _ _ (by omega) RA.2.1.2.2) FB.1.size HL2.out ?_; intro v9 w9 ho9 hg9; have B9 := rise_two FB.1 O6 hg9; clear hg9)
        | (refine step_appI w6 rfl (.tmp 37) (.tmp 39) rfl w.heap.size v6 (zLn z k) rfl O6 w.heap.size 0 1 v rfl (FC.2 _ _ (by omega) RA.2.2.2.2) FC.1.size HL2.out ?_; intro v9 w9 ho9 hg9; have B9 := rise_two FC.1 O6 hg9; clear hg9)
        | (refine step_appN w9 rfl (.tmp 40) (.tmp 43) rfl w.heap.size v9 (zLn z k ++ [v]) rfl ho9 (if cap = k then some ⟨b, off, none⟩ else some ⟨b, off + k, none⟩) (n - k) (cap - k) (fun i => z (k + i)) rfl (HX3.out.below B9) HL3.out B9.size ?_; intro v12 w12 ho12 hg12; have B12 := rise_two B9 ho9 hg12; clear hg12)
        | fail)
      all_goals go_wp2_with fail
      all_goals go_ret
      all_goals exact .inr ⟨_, rfl, B12, by rw [HR.out]; exact ho12⟩
end Go.Proofs.YtnplheilojhpmaaGreat
