/- All keys of leaves: the model; spec.l4All. -/
import Derived.Test.YtbnehgpefjbheaaTns
import Derived.Test.YtbnehgpefjbheaaTnt
namespace Go.Proofs.Ytbnehgpefjbheaa
open Go.RowKit Go.Deep
set_option linter.unusedVariables false
set_option maxRecDepth 20000

theorem wp_appI {o : Oper} {a : Act} {Kc : Act → World → Prop} {Q : Exit → Act → World → Prop} (w : World) (s x : Operand)
    (ho : o.op = .call { callee := .builtin .append, args := #[s, x], argTypes := #[39, 39] })
    (base : Nat) (v : Value) (zs : List Int) (hs : a.eval s = v) (hown : w.ownsRow base 2 1 v zs.length (il zs)) (X O cx : Nat) (z : Int) (hx : a.eval x = .slice (some ⟨X, O, none⟩) 1 cx) (hc : w.cell? ⟨X, O, none⟩ = some (.int .i64 z)) (hb : base ≤ w.heap.size) (hl : zs.length ≤ 100000)
    (hK : ∀ v' w', w'.ownsRow base 2 1 v' (zs ++ [z]).length (il (zs ++ [z])) → w.grownBy w' v.ownBlock → Kc (a.put o.dst v') w') : o.wp Try.prog a w Kc Q := by
  obtain ⟨i0, hi, hzz⟩ := Option.map_eq_some_iff.1 info2
  simp only [Prod.mk.injEq] at hzz
  obtain ⟨hz0, hz1, hz2⟩ := hzz
  refine wp_append_own w s x 39 ho base 2 i0 _ 1 8 Try.underlying39 hi hz0 hz1 hz2 rfl (by decide) v zs.length (il zs) hs hown ⟨X, O, none⟩ 1 cx [.int .i64 z] hx rfl (fun j u hj => ?_) (one_i64 _) (by unfold maxLen; omega) (by omega) hb fun v' w' h2 h3 _ => hK v' w' ?_ h3
  · have : j = 0 := by have := (List.getElem?_eq_some_iff.1 hj).1; simpa using this
    subst this
    rw [WideShapes.add_plain, Nat.add_zero, hc, ← hj]; rfl
  · rw [List.length_append, il_app]; exact h2
theorem wpList_appI {ops : Array Oper} {rest : List Oper} {o : Oper} {a : Act} {Q : Exit → Act → World → Prop} (w : World) (hgd : o.guard = none) (s x : Operand)
    (ho : o.op = .call { callee := .builtin .append, args := #[s, x], argTypes := #[39, 39] })
    (base : Nat) (v : Value) (zs : List Int) (hs : a.eval s = v) (hown : w.ownsRow base 2 1 v zs.length (il zs)) (X O cx : Nat) (z : Int) (hx : a.eval x = .slice (some ⟨X, O, none⟩) 1 cx) (hc : w.cell? ⟨X, O, none⟩ = some (.int .i64 z)) (hb : base ≤ w.heap.size) (hl : zs.length ≤ 100000)
    (hK : ∀ v' w', w'.ownsRow base 2 1 v' (zs ++ [z]).length (il (zs ++ [z])) → w.grownBy w' v.ownBlock → wpList Try.prog ops Q rest (a.put o.dst v') w') : wpList Try.prog ops Q (o :: rest) a w :=
  wpList_plain hgd fun _ hKK => wp_appI w s x ho base v zs hs hown X O cx z hx hc hb hl fun v' w' h2 h3 => hKK _ _ (hK v' w' h2 h3)
theorem step_appI {ops : Array Oper} {o : Oper} {a : Act} {Kc : Act → World → Prop} {Q : Exit → Act → World → Prop} {Ee : Prop} (w : World) (hgd : o.guard = none) (s x : Operand)
    (ho : o.op = .call { callee := .builtin .append, args := #[s, x], argTypes := #[39, 39] })
    (base : Nat) (v : Value) (zs : List Int) (hs : a.eval s = v) (hown : w.ownsRow base 2 1 v zs.length (il zs)) (X O cx : Nat) (z : Int) (hx : a.eval x = .slice (some ⟨X, O, none⟩) 1 cx) (hc : w.cell? ⟨X, O, none⟩ = some (.int .i64 z)) (hb : base ≤ w.heap.size) (hl : zs.length ≤ 100000)
    (hK : ∀ v' w', w'.ownsRow base 2 1 v' (zs ++ [z]).length (il (zs ++ [z])) → w.grownBy w' v.ownBlock → Kc (a.put o.dst v') w') :
    if Region.wanted o (yielded ops a.tmps) = true then Oper.wp Try.prog o a w Kc Q else Ee := by
  have hw : Region.wanted o (yielded ops a.tmps) = true := by simp [Region.wanted, hgd]
  rw [if_pos hw]
  exact wp_appI w s x ho base v zs hs hown X O cx z hx hc hb hl hK
theorem own_belowI {W wq : World} {B n s : Nat} {e : TypeId} {v : Value} {xs : List Value} (h : W.ownsRow B e s v n xs) (hb : Below W.heap.size W wq) : wq.ownsRow B e s v n xs := by
  obtain ⟨h1, h2 | ⟨g, cap, cur, rfl, k1, k2, k3⟩⟩ := h
  · exact ⟨h1, .inl h2⟩
  · refine ⟨h1, .inr ⟨g, cap, cur, rfl, k1, ?_, k3⟩⟩
    have hlt : g < W.heap.size := (Array.getElem?_eq_some_iff.1 k2).1
    exact (hb.block _ hlt).trans k2
theorem row1_slice {w : World} {base n : Nat} {v : Value} {xs : List Value} (h : w.ownsRow base 2 1 v n xs) : ∃ a cap, v = .slice a n cap := by
  rcases h.2 with ⟨rfl, h0⟩ | ⟨g, cap, cur, rfl, _⟩
  · exact ⟨none, 0, by rw [h0]⟩
  · exact ⟨_, cap, rfl⟩
/-- Lists one behind the other. -/
def kcat (g : Nat → List Int) : Nat → List Int
  | 0 => []
  | k + 1 => kcat g k ++ g k
/-- All keys of the leaves below a node. -/
def allK (T : Nat → Nd) : Nat → Nat → List Int
  | 0, _ => []
  | f + 1, p => if (T p).lf = true then zL (T p).K (T p).kn else kcat (fun j => allK T f ((T p).D j).toNat) (T p).dn
theorem kcat_mono (g : Nat → List Int) {k m : Nat} (h : k ≤ m) : (kcat g k).length ≤ (kcat g m).length := by
  induction m with
  | zero => have : k = 0 := by omega
            subst this; exact Nat.le_refl _
  | succ m ih =>
    by_cases e : k = m + 1
    · subst e; exact Nat.le_refl _
    · have := ih (by omega)
      simp only [kcat, List.length_append]
      omega
theorem kcat_part (g : Nat → List Int) {k m : Nat} (h : k < m) : (kcat g k).length + (g k).length ≤ (kcat g m).length := by
  have := kcat_mono g (k := k + 1) (m := m) (by omega)
  simpa [kcat] using this
theorem kcat_cnt {T : Nat → Nd} {n f : Nat} {t : Nd} {lo hi d : Int} {s : St} (hb : ∀ j, j < t.dn → (t.D j).toNat < n) (ih : ∀ s p lo hi d s', p < n → vis T f s p lo hi d = some s' → (allK T f p).length + 3 * s.cnt ≤ 3 * s'.cnt) :
    ∀ k s', k ≤ t.dn → kdl (fun s' q l h => vis T f s' q l h (d + 1)) t lo hi k s = some s' → (kcat (fun j => allK T f (t.D j).toNat) k).length + 3 * s.cnt ≤ 3 * s'.cnt
  | 0, s', _, e => by
    unfold kdl at e
    have := Option.some.inj e
    subst this
    simp [kcat]
  | k + 1, s', hk, e => by
    unfold kdl at e
    split at e
    · exact absurd e (by simp)
    · rename_i s1 e1
      have h1 := kcat_cnt hb ih k s1 (by omega) e1
      have h2 := ih s1 _ _ _ _ s' (hb k (by omega)) e
      simp only [kcat, List.length_append]
      omega
theorem allK_cnt {T : Nat → Nd} {n : Nat} (hG : GoodN T n) : ∀ f s p lo hi d s', p < n → vis T f s p lo hi d = some s' → (allK T f p).length + 3 * s.cnt ≤ 3 * s'.cnt
  | 0, s, p, lo, hi, d, s', _, e => by unfold vis at e; exact absurd e (by simp)
  | f + 1, s, p, lo, hi, d, s', hp, e => by
    unfold vis at e
    split at e
    · exact absurd e (by simp)
    · split at e
      · exact absurd e (by simp)
      · split at e
        · rename_i hl
          split at e
          · have := Option.some.inj e
            subst this
            have h3 := (cntB_le (hG p hp).1).1
            have e1 : allK T (f + 1) p = zL (T p).K (T p).kn := by simp only [allK]; rw [if_pos hl]
            rw [e1, zL_len]
            show (T p).kn + 3 * s.cnt ≤ 3 * (s.cnt + 1)
            omega
          · exact absurd e (by simp)
        · rename_i hl
          have e1 : allK T (f + 1) p = kcat (fun j => allK T f ((T p).D j).toNat) (T p).dn := by simp only [allK]; rw [if_neg hl]
          rw [e1]
          have := kcat_cnt (n := n) (fun j hj => by have := (hG p hp).2 j hj; omega) (fun s p lo hi d s' hp' h => allK_cnt hG f s p lo hi d s' hp' h) _ _ (Nat.le_refl _) e
          have e2 : (met1 s p).cnt = s.cnt + 1 := rfl
          omega
theorem allK_len {t : Tr} (h : trF t = 0) : (allK t.T (t.n + 1) t.root.toNat).length ≤ 180 := by
  obtain ⟨hn1, hn, hG, hr, _⟩ := trF_good h
  unfold trF at h
  split at h
  · omega
  · split at h
    · rename_i h2; exact absurd h h2
    · split at h
      · omega
      · split at h
        · rename_i h4
          unfold hng at h4
          split at h4
          · exact absurd h4 (by simp)
          · rename_i s e
            have h5 := allK_cnt hG _ _ _ _ _ _ _ (by omega) e
            have h6 : s.cnt = t.n := by simpa using h4
            have h7 : (s0 : St).cnt = 0 := rfl
            omega
        · omega
theorem allK_leaf {T : Nat → Nd} {f p : Nat} (h : (T p).lf = true) : allK T (f + 1) p = zL (T p).K (T p).kn := by simp only [allK]; rw [if_pos h]
theorem allK_node {T : Nat → Nd} {f p : Nat} (h : (T p).lf = false) : allK T (f + 1) p = kcat (fun j => allK T f ((T p).D j).toNat) (T p).dn := by simp only [allK]; rw [if_neg (by rw [h]; simp)]
/-- A row of numbers as an answer. -/
def RAn (zs : List Int) (w : World) (e : Ending) (w' : World) : Prop := ∃ v, e = .returned v ∧ Below w.heap.size w w' ∧ w'.ownsRow w.heap.size 2 1 v zs.length (il zs)
theorem made0 (w : World) (base : Nat) (h : base ≤ w.heap.size) : (w.alloc (.cells #[] 2)).ownsRow base 2 1 (.slice (some ⟨w.heap.size, 0, none⟩) 0 0) 0 (il []) :=
  World.ownsRow_made w #[] (e := 2) (size := 1) (base := base) 0 h (by unfold maxLen; omega) rfl
set_option maxHeartbeats 8000000 in
theorem l4All_any (tb n ca : Nat) (a : Option Addr) (T : Nat → Nd) (hn : n ≤ 60) (hG : GoodN T n) :
    ∀ f (p : Nat) (w : World), w.cell? ⟨tb, 1, none⟩ = some (.slice a n ca) → NdsAt w a n T → p < n → fin T f p → (allK T f p).length ≤ 1000 →
    Calls Try.prog 59 #[.pointer (some ⟨tb, 0, none⟩), .int .i64 p] w (RAn (allK T f p) w) := by
  have HG : Hid (GoodN T n) := hG
  clear hG
  intro f
  induction f with
  | zero => intro p w _ _ _ h; exact absurd h (by simp [fin])
  | succ f ih =>
    intro p w htb hA hp hfin hlen
    have IH : Hid (∀ (p : Nat) (w : World), w.cell? ⟨tb, 1, none⟩ = some (.slice a n ca) → NdsAt w a n T → p < n → fin T f p → (allK T f p).length ≤ 1000 → Calls Try.prog 59 #[.pointer (some ⟨tb, 0, none⟩), .int .i64 p] w (RAn (allK T f p) w)) := ih
    have HTB : Hid (w.cell? ⟨tb, 1, none⟩ = some (.slice a n ca)) := htb
    have HA : Hid (NdsAt w a n T) := hA
    have HFN : Hid (fin T (f + 1) p) := hfin
    have HLN : Hid ((allK T (f + 1) p).length ≤ 1000) := hlen
    clear ih hfin hlen
    have hpn : (p : Int) < (n : Int) := by omega
    have hp0 : (0 : Int) ≤ (p : Int) := by omega
    obtain ⟨hkn3, hdn4⟩ := cntB_le (HG.out p hp).1
    have HDB : Hid (∀ j, j < (T p).dn → 0 ≤ (T p).D j ∧ (T p).D j < n) := (HG.out p hp).2
    rcases hA with h | ⟨b, off, rfl, hbl, hc⟩
    · omega
    obtain ⟨ak, ck, ad, cd, hC0, hy, hz, -⟩ := hc p hp
    obtain ⟨q0, q1, q2⟩ := hC0
    have HY : Hid (IntsAt w ak (T p).kn (T p).K) := hy
    have HZ : Hid (IntsAt w ad (T p).dn (T p).D) := hz
    clear hc hy hz
    cases hlf : (T p).lf
    case true =>
      rw [hlf] at q0
      have HP : Hid (allK T (f + 1) p = zL (T p).K (T p).kn) := allK_leaf hlf
      clear hlf HDB HLN
      generalize T p = t at *
      have HYA : Hid (∀ o1 o2 : Obj, IntsAt ((w.alloc o1).alloc o2) ak t.kn t.K) := fun o1 o2 => (HY.out.below (below_new _ _)).below (below_new _ _)
      have HOW : Hid (∀ o1 : Obj, ((w.alloc o1).alloc (.cells #[] 2)).ownsRow w.heap.size 2 1 (.slice (some ⟨w.heap.size + 1, 0, none⟩) 0 0) 0 (il [])) := fun o1 => by
        have h := made0 (w.alloc o1) w.heap.size (by simp)
        rw [World.size_alloc] at h
        exact h
      go_enter Try.func59, Try.ntmps59
      go_wp2_with (at_builtin; refine wpList_appN _ rfl (.tmp 17) (.tmp 19) rfl w.heap.size _ [] rfl (HOW.out _) ak t.kn ck t.K rfl (HYA.out _ _) (by simp; omega) (by simp; omega) ?_)
      intro v' w' ho hg
      have HB : Hid (Below w.heap.size w w') := ((Below.refl _ w).alloc (Nat.le_refl _) _ |>.alloc (by simp) _).grown hg (by simp; omega) fun q hq => by
        have e : q = w.heap.size + 1 := by simpa [Value.ownBlock] using hq.symm
        omega
      have HO : Hid (w'.ownsRow w.heap.size 2 1 v' (allK T (f + 1) p).length (il (allK T (f + 1) p))) := by
        rw [HP.out]
        first | exact ho | (have h9 := ho; simp at h9; exact h9) | (have h9 := ho; rw [List.nil_append] at h9; exact h9)
      clear ho hg
      go_wp2_with fail
      go_ret
      exact ⟨v', rfl, HB.out, HO.out⟩
    case false =>
      rw [hlf] at q0
      have HP : Hid (allK T (f + 1) p = kcat (fun j => allK T f ((T p).D j).toNat) (T p).dn) := allK_node hlf
      have HF : Hid (∀ j, j < (T p).dn → fin T f ((T p).D j).toNat) := by
        rcases HFN.out with h | h
        · rw [hlf] at h; exact absurd h (by simp)
        · exact h
      have HLK : Hid ((kcat (fun j => allK T f ((T p).D j).toNat) (T p).dn).length ≤ 1000) := by rw [← HP.out]; exact HLN.out
      clear hlf HY HLN HFN
      generalize T p = t at *
      have HBX : Hid (∀ o1 o2 : Obj, o1 = .cells #[.bool false, .slice ak t.kn ck, .slice ad t.dn cd] 63 → Box3 ((w.alloc o1).alloc o2) w.heap.size (.bool false) (.slice ak t.kn ck) (.slice ad t.dn cd) ∧ Below w.heap.size w ((w.alloc o1).alloc o2)) := by
        rintro o1 o2 rfl
        exact ⟨(Box3.new _ _ _ _ _).alloc _, below_then (below_new _ _) (below_new _ _)⟩
      have HOW : Hid (∀ o1 : Obj, ((w.alloc o1).alloc (.cells #[] 2)).ownsRow w.heap.size 2 1 (.slice (some ⟨w.heap.size + 1, 0, none⟩) 0 0) 0 (il [])) := fun o1 => by
        have h := made0 (w.alloc o1) w.heap.size (by simp)
        rw [World.size_alloc] at h
        exact h
      obtain ⟨g, hg⟩ : ∃ x, x = (fun j => allK T f (t.D j).toNat) := ⟨_, rfl⟩
      have HGE : Hid (g = fun j => allK T f (t.D j).toNat) := hg
      rw [← hg] at HP HLK
      clear hg
      go_enter Try.func59, Try.ntmps59
      go_wp2_with fail
      go_loopw [6, 7] (fun vo i wr => ∃ k : Nat, k ≤ t.dn ∧ i = .int .i64 k ∧ Hid (Below w.heap.size w wr) ∧ Hid (wr.ownsRow (w.heap.size + 1) 2 1 vo (kcat g k).length (il (kcat g k))) ∧ Hid (Box3 wr w.heap.size (.bool false) (.slice ak t.kn ck) (.slice ad t.dn cd))) (fun _ i _ => t.dn - (intOf i).toNat)
      case atStart =>
        obtain ⟨h1, h2⟩ := HBX.out _ (.cells #[] 2) rfl
        refine ⟨0, Nat.zero_le _, rfl, h2, ?_, h1⟩
        have h := made0 (w.alloc (.cells #[.bool false, .slice ak t.kn ck, .slice ad t.dn cd] 63)) (w.heap.size + 1) (by simp)
        rw [World.size_alloc] at h
        exact h
      case round =>
        clear q0 q1 q2
        obtain ⟨k, hk, rfl, HB, HO, HB3⟩ := hrel
        obtain ⟨n0, n1, n2⟩ := HB3.out
        by_cases hlt : k < t.dn
        · have hlt' : (k : Int) < (t.dn : Int) := by omega
          have hk0' : (0 : Int) ≤ (k : Int) := by omega
          rcases HZ.out.below HB.out with h | ⟨b1, o1, rfl, hl1, hc1⟩
          · omega
          have hx := hc1 k hlt
          have hDk := HDB.out k hlt
          obtain ⟨q, hq⟩ : ∃ q : Nat, t.D k = q := ⟨(t.D k).toNat, by omega⟩
          have e9 : (t.D k).toNat = q := by omega
          have HGK : Hid (g k = allK T f q) := by show g k = _; rw [HGE.out]; show allK T f (t.D k).toNat = _; rw [e9]
          have hpart := kcat_part g hlt
          have HC : Hid (Calls Try.prog 59 #[.pointer (some ⟨tb, 0, none⟩), .int .i64 q] wr (RAn (g k) wr)) := by
            rw [HGK.out]
            exact IH.out q wr (cell_below HTB.out HB.out) (HA.out.below HB.out) (by omega) (by rw [← e9]; exact HF.out k hlt) (by have h1 := HLK.out; rw [← HGK.out]; omega)
          have HLS : Hid ((kcat g k).length + (g k).length ≤ 100000) := by have h1 := HLK.out; show _ ≤ _; omega
          have HST : Hid (kcat g (k + 1) = kcat g k ++ g k) := rfl
          rw [hq] at hx
          clear hc1 hDk hq e9 hpart HGK HBX HOW
          go_wp2_with fail
          refine HC.out.mono ?_
          intro e w2 hpost
          unfold RAn at hpost
          obtain ⟨v2, he, hb2, ho2⟩ := hpost
          subst he
          obtain ⟨ra, rc, rfl, hint⟩ := rowI_shape ho2
          have HO2 : Hid (w2.ownsRow (w.heap.size + 1) 2 1 _ (kcat g k).length (il (kcat g k))) := own_belowI HO.out hb2
          have HI2 : Hid (IntsAt w2 ra (g k).length (zI (g k))) := hint
          have HB2 : Hid (Below w.heap.size w w2) := below_then HB.out hb2
          have HX2 : Hid (Box3 w2 w.heap.size (.bool false) (.slice ak t.kn ck) (.slice (some ⟨b1, o1, none⟩) t.dn cd)) := HB3.out.below hb2
          have HSZ : Hid (w.heap.size + 1 ≤ w2.heap.size) := HX2.out.lt
          clear hint ho2 hb2 n0 n1 n2
          go_wp2_with (at_builtin; refine wpList_appN _ rfl (.tmp 29) (.tmp 36) rfl (w.heap.size + 1) _ (kcat g k) rfl HO2.out ra (g k).length rc (zI (g k)) rfl HI2.out HLS.out HSZ.out ?_)
          intro v3 w3 ho3 hg3
          have HO3 : Hid (w3.ownsRow (w.heap.size + 1) 2 1 v3 (kcat g (k + 1)).length (il (kcat g (k + 1)))) := by
            rw [HST.out, List.length_append]
            rw [zL_zI] at ho3
            first | exact ho3 | (simpa using ho3)
          have HB3' : Hid (Below w.heap.size w w3) := HB2.out.grown hg3 (by have := HSZ.out; omega) fun q hq => by have := (ownI_lt HO2.out q hq).1; omega
          have HX3 : Hid (Box3 w3 w.heap.size (.bool false) (.slice ak t.kn ck) (.slice (some ⟨b1, o1, none⟩) t.dn cd)) := by
            have hb := hg3.block w.heap.size HX2.out.lt (fun e => by have := (ownI_lt HO2.out _ e.symm).1; omega)
            have e9 : ∀ i, w3.cell? ⟨w.heap.size, i, none⟩ = w2.cell? ⟨w.heap.size, i, none⟩ := fun i => World.cell?_of_block (a := ⟨w.heap.size, i, none⟩) hb
            exact ⟨(e9 _).trans HX2.out.1, (e9 _).trans HX2.out.2.1, (e9 _).trans HX2.out.2.2⟩
          clear ho3 hg3 HX2 HB2 HO2 HI2
          go_wp2_with fail
          go_roundw
          case rel => exact ⟨k + 1, hlt, by go_num, HB3', HO3, HX3⟩
          case measure => simp [intOf]; omega
        · have hnl : ¬ ((k : Int) < (t.dn : Int)) := by omega
          have hkd : k = t.dn := by omega
          subst hkd
          have HOF : Hid (∀ v, wr.ownsRow (w.heap.size + 1) 2 1 v (kcat g t.dn).length (il (kcat g t.dn)) → wr.ownsRow w.heap.size 2 1 v (allK T (f + 1) p).length (il (allK T (f + 1) p))) := fun v h => by
            rw [HP.out]
            obtain ⟨h1, h2 | ⟨g1, cap, cur, e1, k1, k2⟩⟩ := h
            · exact ⟨h1, .inl h2⟩
            · exact ⟨h1, .inr ⟨g1, cap, cur, e1, by omega, k2⟩⟩
          clear HBX HOW
          go_wp2_with fail
          go_ret
          exact ⟨_, rfl, HB.out, HOF.out _ HO.out⟩
end Go.Proofs.Ytbnehgpefjbheaa
