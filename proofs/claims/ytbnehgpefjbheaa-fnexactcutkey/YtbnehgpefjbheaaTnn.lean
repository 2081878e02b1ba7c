/- impl.wayTo. -/
import Derived.Test.YtbnehgpefjbheaaTnm
namespace Go.Proofs.Ytbnehgpefjbheaa
open Go.RowKit Go.Deep
set_option linter.unusedVariables false
set_option maxRecDepth 20000

/-- What the closure of wayTo finds: N blocks were there before; then the tree's address, the key, the way, the closure. -/
structure Wy (W0 : World) (tb : Nat) (key : Int) (w : World) (L : List Int) (v : Value) : Prop where
  below : Below W0.heap.size W0 w
  size : W0.heap.size + 4 ≤ w.heap.size
  t : w.cell? ⟨W0.heap.size, 0, none⟩ = some (.pointer (some ⟨tb, 0, none⟩))
  key : w.cell? ⟨W0.heap.size + 1, 0, none⟩ = some (.int .i64 key)
  way : w.cell? ⟨W0.heap.size + 2, 0, none⟩ = some v
  wayf : ∀ i, w.frozen? ⟨W0.heap.size + 2, i, none⟩ = false
  own : w.ownsRow (W0.heap.size + 4) 2 1 v L.length (il L)
  fn : w.cell? ⟨W0.heap.size + 3, 0, none⟩ = some (.func (.func 82) #[] #[.pointer (some ⟨W0.heap.size + 2, 0, none⟩), .pointer (some ⟨W0.heap.size, 0, none⟩), .pointer (some ⟨W0.heap.size + 3, 0, none⟩), .pointer (some ⟨W0.heap.size + 1, 0, none⟩)])
theorem Wy.drewn {W0 w : World} {tb : Nat} {key : Int} {L : List Int} {v : Value} (h : Wy W0 tb key w L v) : Wy W0 tb key w.drew L v := ⟨h.below.drew, h.size, h.t, h.key, h.way, h.wayf, h.own, h.fn⟩
/-- One more place on the way. -/
theorem Wy.go {W0 w w1 w3 : World} {tb g c : Nat} {key p : Int} {L : List Int} {v : Value} (h : Wy W0 tb key w L v) (hb : Below w.heap.size w w1) (hg : w1.grownBy w3 v.ownBlock) (ho : w3.ownsRow (W0.heap.size + 4) 2 1 (.slice (some ⟨g, 0, none⟩) (L.length + 1) c) (L.length + 1) (il (L ++ [p]))) (hl : v.ownBlock = some g ∨ g = w1.heap.size) :
    Wy W0 tb key (w3.setCell ⟨W0.heap.size + 2, 0, none⟩ (.slice (some ⟨g, 0, none⟩) (L.length + 1) c)) (L ++ [p]) (.slice (some ⟨g, 0, none⟩) (L.length + 1) c) := by
  have hs := h.size
  have hs1 := hb.size
  have hne : ∀ k, k < W0.heap.size + 4 → some k ≠ v.ownBlock := fun k hk e => by have := (ownI_lt h.own _ e.symm).1; omega
  have e1 : ∀ k, k < W0.heap.size + 4 → w3.heap[k]? = w.heap[k]? := fun k hk => (hg.block k (by omega) (hne k hk)).trans (hb.block k (by omega))
  have c1 : ∀ k i, k < W0.heap.size + 4 → w3.cell? ⟨k, i, none⟩ = w.cell? ⟨k, i, none⟩ := fun k i hk => World.cell?_of_block (a := ⟨k, i, none⟩) (e1 k hk)
  have hgG : W0.heap.size + 4 ≤ g := by
    rcases hl with e | e
    · exact (ownI_lt h.own g e).1
    · omega
  have hB3 : Below W0.heap.size W0 w3 := (h.below.trans (hb.mono (by omega))).grown hg (by omega) fun q hq => by have := (ownI_lt h.own q hq).1; omega
  refine ⟨hB3.setCell (p := ⟨_, _, none⟩) (by show W0.heap.size ≤ W0.heap.size + 2; omega) _, by have := hg.size; simp [World.setCell]; omega, ?_, ?_, ?_, fun i => ?_, ?_, ?_⟩
  · rw [World.cell?_setCell_far _ _ _ _ (by dsimp only; omega), c1 _ _ (by omega)]; exact h.t
  · rw [World.cell?_setCell_far _ _ _ _ (by dsimp only; omega), c1 _ _ (by omega)]; exact h.key
  · exact setS ((c1 _ _ (by omega)).trans h.way)
  · rw [World.frozen?_setCell, World.frozen?_of_block (a := ⟨W0.heap.size + 2, i, none⟩) (e1 _ (by dsimp only; omega))]; exact h.wayf i
  · refine ownI_keep (by rw [show (L ++ [p]).length = L.length + 1 by simp]; exact ho) fun q hq => ?_
    have e : q = g := by simpa [Value.ownBlock] using hq.symm
    exact Below.heap_setCell _ _ _ _ (by dsimp only; omega)
  · rw [World.cell?_setCell_far _ _ _ _ (by dsimp only; omega), c1 _ _ (by omega)]; exact h.fn
/-- What the closure leaves. -/
def WyP (W0 : World) (tb : Nat) (key : Int) (L : List Int) (e : Ending) (w' : World) : Prop := e = .returned (.tuple #[]) ∧ ∃ v, Wy W0 tb key w' L v
theorem pth_leaf {T : Nat → Nd} {key : Int} {f p : Nat} (h : (T p).lf = true) : pth T key (f + 1) p = [(p : Int)] := by simp only [pth]; rw [if_pos h]
theorem pth_node {T : Nat → Nd} {key : Int} {f p : Nat} (h : (T p).lf = false) : pth T key (f + 1) p = (p : Int) :: pth T key f ((T p).D (kix (T p) key)).toNat := by simp only [pth]; rw [if_neg (by rw [h]; simp)]
set_option maxHeartbeats 8000000 in
theorem wayI (W0 : World) (tb n ca : Nat) (a : Option Addr) (T : Nat → Nd) (key : Int) (hn : n ≤ 60) (hG : GoodN T n) (htb : W0.cell? ⟨tb, 1, none⟩ = some (.slice a n ca)) (hA : NdsAt W0 a n T) :
    ∀ f (p : Nat) (L : List Int) (v : Value) (w : World), Wy W0 tb key w L v → p < n → fin T f p → L.length + f ≤ 1000 →
    Calls Try.prog 82 #[.int .i64 p, .pointer (some ⟨W0.heap.size + 2, 0, none⟩), .pointer (some ⟨W0.heap.size, 0, none⟩), .pointer (some ⟨W0.heap.size + 3, 0, none⟩), .pointer (some ⟨W0.heap.size + 1, 0, none⟩)] w (WyP W0 tb key (L ++ pth T key f p)) := by
  have HG : Hid (GoodN T n) := hG
  have HA : Hid (NdsAt W0 a n T) := hA
  have HTB : Hid (W0.cell? ⟨tb, 1, none⟩ = some (.slice a n ca)) := htb
  clear hG hA htb
  intro f
  induction f with
  | zero => intro p L v w _ _ h; exact absurd h (by simp [fin])
  | succ f ih =>
    intro p L v w hH hp hfin hL
    have IH : Hid (∀ (p : Nat) (L : List Int) (v : Value) (w : World), Wy W0 tb key w L v → p < n → fin T f p → L.length + f ≤ 1000 → Calls Try.prog 82 #[.int .i64 p, .pointer (some ⟨W0.heap.size + 2, 0, none⟩), .pointer (some ⟨W0.heap.size, 0, none⟩), .pointer (some ⟨W0.heap.size + 3, 0, none⟩), .pointer (some ⟨W0.heap.size + 1, 0, none⟩)] w (WyP W0 tb key (L ++ pth T key f p))) := ih
    clear ih
    have HH : Hid (Wy W0 tb key w L v) := hH
    have HFN : Hid (fin T (f + 1) p) := hfin
    have hpn : (p : Int) < (n : Int) := by omega
    have hp0 : (0 : Int) ≤ (p : Int) := by omega
    obtain ⟨ga, gc, hva, -⟩ := rowI_shape HH.out.own
    have HVA : Hid (v = .slice ga L.length gc) := hva
    have w0 := HH.out.way
    have wf := HH.out.wayf
    have HSZ : Hid (W0.heap.size + 4 ≤ w.heap.size) := HH.out.size
    rw [hva] at w0
    have HOW : Hid (∀ o : Obj, (w.alloc o).ownsRow (W0.heap.size + 4) 2 1 (.slice ga L.length gc) L.length (il L)) := fun o => by
      have h : (w.alloc o).ownsRow (W0.heap.size + 4) 2 1 v L.length (il L) := ownI_keep HH.out.own fun q hq => (below_new w o).block q (ownI_lt HH.out.own q hq).2
      rw [HVA.out] at h
      exact h
    have G0 := fun o : Obj => cell_alloc w0 o
    clear hH hva hfin
    go_enter Try.func82, Try.ntmps82
    go_wp2_with (at_builtin; refine wpList_appIL _ rfl (.tmp 7) (.tmp 9) rfl (W0.heap.size + 4) _ L rfl (HOW.out _) w.heap.size 0 1 p rfl (by simp [go_sem]) (by have := HSZ.out; simp; omega) (by omega) ?_)
    intro g gcap w3 ho3 hg3 hl3 hlt3
    have hgn : some (W0.heap.size + 2) ≠ (Value.slice ga L.length gc).ownBlock := fun e => by
      have h := HH.out.own
      rw [HVA.out] at h
      have := (ownI_lt h _ e.symm).1
      omega
    have hsw : W0.heap.size + 2 < (w.alloc (.cells #[.int .i64 (p : Int)] 2)).heap.size := by have := HSZ.out; simp; omega
    have z0 : w3.cell? ⟨W0.heap.size + 2, 0, none⟩ = some (.slice ga L.length gc) := (World.cell?_of_block (a := ⟨W0.heap.size + 2, 0, none⟩) (hg3.block _ hsw hgn)).trans (G0 _)
    have zf : ∀ i, w3.frozen? ⟨W0.heap.size + 2, i, none⟩ = false := fun i => (World.frozen?_of_block (a := ⟨W0.heap.size + 2, i, none⟩) (hg3.block _ hsw hgn)).trans (((below_new w _).frozen (p := ⟨W0.heap.size + 2, i, none⟩) (by have := HSZ.out; show W0.heap.size + 2 < w.heap.size; omega)).trans (wf i))
    have HS3 : Hid (Wy W0 tb key (w3.setCell ⟨W0.heap.size + 2, 0, none⟩ (.slice (some ⟨g, 0, none⟩) (L.length + 1) gcap)) (L ++ [(p : Int)]) (.slice (some ⟨g, 0, none⟩) (L.length + 1) gcap)) := HH.out.go (below_new w _) (by rw [HVA.out]; exact hg3) ho3 (by rw [HVA.out, World.size_alloc]; exact hl3)
    clear hg3 ho3 hl3 hlt3 hgn hsw HOW G0 w0 wf
    go_upto_region 1 with fail
    generalize w3.setCell ⟨W0.heap.size + 2, 0, none⟩ (.slice (some ⟨g, 0, none⟩) (L.length + 1) gcap) = W2 at *
    generalize hv2 : Value.slice (some ⟨g, 0, none⟩) (L.length + 1) gcap = v2 at HS3
    have t0 := HS3.out.t
    have t1 := cell_below HTB.out HS3.out.below
    rcases HA.out with h | ⟨b, off, rfl, hbl, hc⟩
    · omega
    obtain ⟨ak, ck, ad, cd, hC0, hy, hz, -⟩ := hc p hp
    have HC0 : Hid (CNd W0 b (off + p * 3) (T p) ak ck ad cd) := hC0
    have HC : Hid (CNd W2 b (off + p * 3) (T p) ak ck ad cd) := hC0.block (HS3.out.below.block _ hbl)
    have HY : Hid (IntsAt W2 ak (T p).kn (T p).K) := hy.below HS3.out.below
    obtain ⟨q0, q1, q2⟩ := HC.out
    clear hc hC0 z0 zf
    cases hlf : (T p).lf
    case true =>
      have HP : Hid (L ++ pth T key (f + 1) p = L ++ [(p : Int)]) := by show _ = _; rw [pth_leaf hlf]
      rw [hlf] at q0
      clear hz hy
      generalize T p = t at *
      go_wp2_with fail
      go_end0
      show WyP _ _ _ _ _ _
      rw [HP.out]
      exact ⟨rfl, _, HS3.out⟩
    case false =>
      have hk := kid_ok HG.out hp hlf key
      have HP : Hid (L ++ pth T key (f + 1) p = (L ++ [(p : Int)]) ++ pth T key f ((T p).D (kix (T p) key)).toNat) := by show _ = _; rw [pth_node hlf]; simp
      obtain ⟨q, hq⟩ : ∃ q : Nat, (T p).D (kix (T p) key) = q := ⟨((T p).D (kix (T p) key)).toNat, by omega⟩
      have HF : Hid (fin T f q) := by
        have e : ((T p).D (kix (T p) key)).toNat = q := by omega
        rcases HFN.out with h | h
        · rw [hlf] at h; exact absurd h (by simp)
        · rw [← e]; exact h _ hk.1
      have hqn : q < n := by omega
      rcases hz with h | ⟨b1, o1, rfl, hl1, hc1⟩
      · omega
      have hx0 := hc1 (kix (T p) key) hk.1
      rw [hq] at hx0 HP
      have HX0 : Hid (W0.cell? ⟨b1, o1 + kix (T p) key, none⟩ = some (.int .i64 q)) := hx0
      have hx := cell_below hx0 HS3.out.below
      clear hx0
      have HP2 : Hid (L ++ pth T key (f + 1) p = (L ++ [(p : Int)]) ++ pth T key f q) := by have h := HP.out; rw [Int.toNat_natCast] at h; exact h
      have hi1 : ((kix (T p) key : Nat) : Int) < ((T p).dn : Int) := by omega
      have hi0 : (0 : Int) ≤ ((kix (T p) key : Nat) : Int) := by omega
      have hk3 := hk.2.2.2
      rw [hlf] at q0
      have k0 := HS3.out.key
      have f0 := HS3.out.fn
      have HS3d : Hid (Wy W0 tb key W2.drew (L ++ [(p : Int)]) v2) := HS3.out.drewn
      have HKU : Hid (∀ u : World, u = W2.drew → Calls Try.prog 83 #[.pointer (some ⟨b, off + p * 3, none⟩), .int .i64 key] u fun e w' => e = .returned (.int .i64 (kix (T p) key)) ∧ w' = u) := by
        rintro u rfl
        exact keysUpTo_any (T p) key b (off + p * 3) ak (some ⟨b1, o1, none⟩) ck cd W2.drew hk3 HC.out HY.out
      have HLL : Hid ((L ++ [(p : Int)]).length + f ≤ 1000) := by show (L ++ [(p : Int)]).length + f ≤ 1000; simp; omega
      clear hc1 hq hk HP hy hlf hv2
      generalize kix (T p) key = ki at *
      generalize T p = t at *
      go_wp2_with fail
      go_region_held3 (fun w' => w'.cell? ⟨W0.heap.size + 3, 0, none⟩ = some (.func (.func 82) #[] #[.pointer (some ⟨W0.heap.size + 2, 0, none⟩), .pointer (some ⟨W0.heap.size, 0, none⟩), .pointer (some ⟨W0.heap.size + 3, 0, none⟩), .pointer (some ⟨W0.heap.size + 1, 0, none⟩)]) ∧ w'.cell? ⟨b, off + p * 3 + 2, none⟩ = some (.slice (some ⟨b1, o1, none⟩) t.dn cd) ∧ w'.cell? ⟨W0.heap.size + 1, 0, none⟩ = some (.int .i64 key) ∧ w'.cell? ⟨b1, o1 + ki, none⟩ = some (.int .i64 q)) (go_keep)
        (first | (go_at_call 83; refine (HKU.out _ rfl).mono ?_; rintro e w' ⟨rfl, rfl⟩) | ((with_reducible refine (IH.out q _ v2 _ HS3d.out hqn HF.out HLL.out).mono ?_); intro e w4 hpost; unfold WyP at hpost; obtain ⟨he4, v4, hW4⟩ := hpost; subst he4; have HW4 : Hid (Wy W0 tb key w4 (L ++ [(p : Int)] ++ pth T key f q) v4) := hW4; have u0 := hW4.fn; have u1 := (HC0.out.block (hW4.below.block _ hbl)).2.2; have u2 := hW4.key; have u3 := cell_below HX0.out hW4.below; clear hW4))
      go_wp2_with fail
      go_end0
      show WyP _ _ _ _ _ _
      rw [HP2.out]
      exact ⟨rfl, _, HW4.out⟩
theorem wy_start (w : World) (tb : Nat) (key : Int) : Wy w tb key ((((w.alloc (.cells #[.pointer (some ⟨tb, 0, none⟩)] 60)).alloc (.cells #[.int .i64 key] 2)).alloc (.cells #[.slice none 0 0] 39)).alloc
      (.cells #[.func (.func 82) #[] #[.pointer (some ⟨w.heap.size + 2, 0, none⟩), .pointer (some ⟨w.heap.size, 0, none⟩), .pointer (some ⟨w.heap.size + 3, 0, none⟩), .pointer (some ⟨w.heap.size + 1, 0, none⟩)]] 98)) [] (.slice none 0 0) := by
  have hb : Below w.heap.size w _ := ((((Below.refl _ _).alloc (Nat.le_refl _) (.cells #[.pointer (some ⟨tb, 0, none⟩)] 60)).alloc (by simp) (.cells #[.int .i64 key] 2)).alloc (by simp; omega) (.cells #[.slice none 0 0] 39)).alloc (by simp; omega)
      (.cells #[.func (.func 82) #[] #[.pointer (some ⟨w.heap.size + 2, 0, none⟩), .pointer (some ⟨w.heap.size, 0, none⟩), .pointer (some ⟨w.heap.size + 3, 0, none⟩), .pointer (some ⟨w.heap.size + 1, 0, none⟩)]] 98)
  refine ⟨hb, by simp, by simp [go_sem], by simp [go_sem], by simp [go_sem], fun i => by simp [go_sem], ⟨by simp [il], .inl ⟨rfl, rfl⟩⟩, by simp [go_sem]⟩
/-- A list of numbers as an answer. -/
def IAn (zs : List Int) (w : World) (e : Ending) (w' : World) : Prop := ∃ a cap, e = .returned (.slice a zs.length cap) ∧ Below w.heap.size w w' ∧ OwnI w' w.heap.size w'.heap.size a zs.length (zI zs)
set_option maxHeartbeats 4000000 in
theorem wayTo_any (t : Tr) (key : Int) (tb ca : Nat) (a : Option Addr) (w : World) (hn1 : 1 ≤ t.n) (hn : t.n ≤ 60) (hG : GoodN t.T t.n) (hr0 : 0 ≤ t.root) (hr : t.root < t.n) (hfin : fin t.T (t.n + 1) t.root.toNat) (htr : w.cell? ⟨tb, 0, none⟩ = some (.int .i64 t.root)) (htb : w.cell? ⟨tb, 1, none⟩ = some (.slice a t.n ca)) (hA : NdsAt w a t.n t.T) :
    Calls Try.prog 54 #[.pointer (some ⟨tb, 0, none⟩), .int .i64 key] w (IAn (pth t.T key (t.n + 1) t.root.toNat) w) := by
  obtain ⟨q, hq⟩ : ∃ q : Nat, t.root = q := ⟨t.root.toNat, by omega⟩
  have htq : t.root.toNat = q := by omega
  rw [htq] at hfin ⊢
  generalize hP : pth t.T key (t.n + 1) q = P
  have hmf : ∀ (fn : Fn) (first cap : Array Value) (w : World), (Instr.makeFunc fn first cap).run Try.prog w = .ok (.func fn first cap) w := fun _ _ _ _ => rfl
  have hsf : ∀ (q : Addr) (u : World) (fn : Fn) (first cap : Array Value) m, (store q (.func fn first cap) m).run Try.prog u = stored Try.prog u q (.func fn first cap) m := fun q u fn first cap m => run_store Try.prog u q _ m rfl
  go_enter Try.func54, Try.ntmps54
  go_upto_region 4 with fail
  rw [show w.heap.size + 1 + 1 = w.heap.size + 2 from rfl]
  rw [show w.heap.size + 2 + 1 = w.heap.size + 3 from rfl]
  have HS := wy_start w tb key
  generalize (((w.alloc (.cells #[.pointer (some ⟨tb, 0, none⟩)] 60)).alloc (.cells #[.int .i64 key] 2)).alloc (.cells #[.slice none 0 0] 39)).alloc
      (.cells #[.func (.func 82) #[] #[.pointer (some ⟨w.heap.size + 2, 0, none⟩), .pointer (some ⟨w.heap.size, 0, none⟩), .pointer (some ⟨w.heap.size + 3, 0, none⟩), .pointer (some ⟨w.heap.size + 1, 0, none⟩)]] 98) = W at *
  have HTB : Hid (w.cell? ⟨tb, 1, none⟩ = some (.slice a t.n ca)) := htb
  have HT0 : Hid (w.cell? ⟨tb, 0, none⟩ = some (.int .i64 (q : Int))) := by rw [← hq]; exact htr
  have c0 := HS.t
  have c1 := cell_below HT0.out HS.below
  have c3 := HS.fn
  have HW : Hid (Calls Try.prog 82 #[.int .i64 q, .pointer (some ⟨w.heap.size + 2, 0, none⟩), .pointer (some ⟨w.heap.size, 0, none⟩), .pointer (some ⟨w.heap.size + 3, 0, none⟩), .pointer (some ⟨w.heap.size + 1, 0, none⟩)] W.drew (WyP w tb key P)) := by
    rw [← hP]
    exact wayI w tb t.n ca a t.T key hn hG htb hA (t.n + 1) q [] (.slice none 0 0) W.drew HS.drewn (by omega) hfin (by simp; omega)
  clear HS hmf hsf hG hA htb htr hq htq hr0 hr hfin hP
  go_region_held3 (fun w' => w'.cell? ⟨w.heap.size + 3, 0, none⟩ = some (.func (.func 82) #[] #[.pointer (some ⟨w.heap.size + 2, 0, none⟩), .pointer (some ⟨w.heap.size, 0, none⟩), .pointer (some ⟨w.heap.size + 3, 0, none⟩), .pointer (some ⟨w.heap.size + 1, 0, none⟩)]) ∧ w'.cell? ⟨w.heap.size, 0, none⟩ = some (.pointer (some ⟨tb, 0, none⟩)) ∧ w'.cell? ⟨tb, 0, none⟩ = some (.int .i64 q)) (go_keep)
    (first | ((with_reducible refine HW.out.mono ?_); intro e w4 hpost; unfold WyP at hpost; obtain ⟨he4, v4, hW4⟩ := hpost; subst he4; have HW4 : Hid (Wy w tb key w4 P v4) := hW4; have u0 := hW4.fn; have u1 := hW4.t; have u2 := cell_below HT0.out hW4.below; have u3 := hW4.way; clear hW4))
  obtain ⟨pa, pc, rfl, ho⟩ := ownI_of_row HW4.out.own
  have HO : Hid (OwnI w4 (w.heap.size + 4) w4.heap.size pa P.length (zI P)) := ho
  go_wp2_with fail
  go_ret
  have h9 : OwnI w4 (w.heap.size + 4) w4.heap.size pa P.length (zI P) := HO.out
  exact ⟨pa, pc, rfl, HW4.out.below, OwnI.wide h9 (Nat.le_add_right _ 4) (Nat.le_refl _) (Nat.le_refl _)⟩
end Go.Proofs.Ytbnehgpefjbheaa
