/- spec.KeysIn. -/
import Derived.Test.YtbnehgpefjbheaaTnv
namespace Go.Proofs.Ytbnehgpefjbheaa
open Go.RowKit Go.Deep
set_option linter.unusedVariables false
set_option maxRecDepth 20000

/-- What the loop of spec.KeysIn keeps: the list in the block B. -/
structure Kl (w wr : World) (B M : Nat) (v : Value) (zs : List Int) : Prop where
  below : Below w.heap.size w wr
  hB : w.heap.size + 2 ≤ B
  hM : B + 1 ≤ M
  hsz : M ≤ wr.heap.size
  r : Box2 wr (w.heap.size + 1) (.int .i64 0) (.slice none 0 0)
  rf : ∀ o, wr.frozen? ⟨w.heap.size + 1, o, none⟩ = false
  b : Box2 wr B (.int .i64 0) v
  bf : ∀ o, wr.frozen? ⟨B, o, none⟩ = false
  own : wr.ownsRow M 2 1 v zs.length (il zs)
theorem Kl.mono {w wr w2 : World} {B M : Nat} {v : Value} {zs : List Int} (h : Kl w wr B M v zs) (hb : Below wr.heap.size wr w2) : Kl w w2 B M v zs := by
  have h1 := h.hB
  have h2 := h.hsz
  have h3 := h.hM
  exact ⟨below_then h.below hb, h1, h3, Nat.le_trans h2 hb.size, h.r.below hb, fun o => ((bcell2 hb).2 _ _ (by omega)).trans (h.rf o), h.b.below hb, fun o => ((bcell2 hb).2 _ _ (by omega)).trans (h.bf o), own_belowI h.own hb⟩
theorem Kl.app {w wr w' : World} {B M : Nat} {v v2 : Value} {zs ys : List Int} (h : Kl w wr B M v zs) (hg : wr.grownBy w' v.ownBlock) (ho : w'.ownsRow M 2 1 v2 ys.length (il ys)) :
    Kl w (w'.setCell ⟨B, 1, none⟩ v2) B M v2 ys ∧ w'.cell? ⟨B, 1, none⟩ = some v ∧ (∀ o, w'.frozen? ⟨B, o, none⟩ = false) := by
  have h1 := h.hB
  have h2 := h.hsz
  have h3 := h.hM
  have hw : Writes M wr.heap.size wr w' := ⟨hg.os, hg.tape, hg.output, hg.size, fun k hk hd => hg.block k hk fun e => by have := (ownI_lt h.own k e.symm).1; omega⟩
  have hf : ∀ b o, b < M → w'.frozen? ⟨b, o, none⟩ = wr.frozen? ⟨b, o, none⟩ := fun b o hb => World.frozen?_of_block (w := wr) (a := ⟨b, o, none⟩) (hw.block b (by omega) (by omega))
  have hs : Writes B (B + 1) w' (w'.setCell ⟨B, 1, none⟩ v2) := Writes.setCell (Writes.refl _ _ _) (p := ⟨B, 1, none⟩) (Nat.le_refl _) (Nat.lt_succ_self _) _
  obtain ⟨c0, c1⟩ := h.b.writes hw (by omega)
  refine ⟨⟨Writes.below (Writes.below h.below hw (by omega)) hs (by omega), h1, h3, by have := hw.size; have := hs.size; omega, (h.r.writes hw (by omega)).writes hs (by omega), fun o => by rw [World.frozen?_setCell, hf _ _ (by omega)]; exact h.rf o, ⟨(setO (by omega)).trans c0, setS c1⟩, fun o => by rw [World.frozen?_setCell, hf _ _ (by omega)]; exact h.bf o, ?_⟩, c1, fun o => (hf _ _ (by omega)).trans (h.bf o)⟩
  obtain ⟨k1, k2 | ⟨g, gc, cur, rfl, m1, m2, m3⟩⟩ := ho
  · exact ⟨k1, .inl k2⟩
  · exact ⟨k1, .inr ⟨g, gc, cur, rfl, m1, (hs.block g (Array.getElem?_eq_some_iff.1 m2).1 (by omega)).trans m2, m3⟩⟩
/-- The list that is gone through: below M, not in block B. -/
def AP (wr : World) (B M : Nat) (aa : Option Addr) (n : Nat) (z : Nat → Int) : Prop := n = 0 ∨ ∃ bb off, aa = some ⟨bb, off, none⟩ ∧ B < bb ∧ bb < M ∧ bb < wr.heap.size ∧ ∀ i, i < n → wr.cell? ⟨bb, off + i, none⟩ = some (.int .i64 (z i))
theorem AP.mono {wr w2 : World} {B M : Nat} {aa : Option Addr} {n : Nat} {z : Nat → Int} (h : AP wr B M aa n z) (hb : Below wr.heap.size wr w2) : AP w2 B M aa n z := by
  rcases h with h | ⟨bb, off, ha, h1, h2, h3, hc⟩
  · exact .inl h
  · exact .inr ⟨bb, off, ha, h1, h2, Nat.lt_of_lt_of_le h3 hb.size, fun i hi => cell_below (hc i hi) hb⟩
theorem AP.app {wr w' : World} {B M : Nat} {aa : Option Addr} {n : Nat} {z : Nat → Int} {row : Option Nat} {x : Value} (h : AP wr B M aa n z) (hg : wr.grownBy w' row) (hr : ∀ q, row = some q → M ≤ q) : AP (w'.setCell ⟨B, 1, none⟩ x) B M aa n z := by
  rcases h with h | ⟨bb, off, ha, h1, h2, h3, hc⟩
  · exact .inl h
  · refine .inr ⟨bb, off, ha, h1, h2, by have := hg.size; simp [World.setCell]; omega, fun i hi => ?_⟩
    rw [World.cell?_setCell_far _ _ _ _ (by dsimp only; omega), World.cell?_of_block (a := ⟨bb, off + i, none⟩) (hg.block bb h3 (fun e => by have := hr bb e.symm; omega))]
    exact hc i hi
set_option maxHeartbeats 4000000 in
theorem specKi_any (t : Tr) (lo hi : Int) (a : Option Addr) (ca : Nat) (w : World) (hs : SmallT t) (h : NdsAt w a t.n t.T) :
    Calls Try.prog 27 #[.agg #[.int .i64 t.root, .slice a t.n ca], .int .i64 lo, .int .i64 hi] w (IRes (trF t) (fil lo hi (allK t.T (t.n + 1) t.root.toNat)) w) := by
  have HA : Hid (NdsAt w a t.n t.T) := h
  have HS : Hid (SmallT t) := hs
  clear h hs
  go_enter Try.func27, Try.ntmps27
  go_wp2_with fail
  obtain ⟨W, hW⟩ : ∃ y, y = (w.alloc (.cells #[.int .i64 t.root, .slice a t.n ca] 29)).alloc (.cells #[.int .i64 0, .slice none 0 0] 41) := ⟨_, rfl⟩
  have b0 : W.cell? ⟨w.heap.size, 0, none⟩ = some (.int .i64 t.root) := by rw [hW]; simp [go_sem]
  have b1 : W.cell? ⟨w.heap.size, 1, none⟩ = some (.slice a t.n ca) := by rw [hW]; simp [go_sem]
  have B2 : Box2 W (w.heap.size + 1) (.int .i64 0) (.slice none 0 0) := by rw [hW]; exact ⟨by simp [go_sem], by simp [go_sem]⟩
  have rf : ∀ i, W.frozen? ⟨w.heap.size + 1, i, none⟩ = false := fun i => by rw [hW]; simp [go_sem]
  have HB : Hid (Below w.heap.size w W) := by rw [hW]; exact below_then (below_new _ _) (below_new _ _)
  have hsz : W.heap.size = w.heap.size + 2 := by rw [hW]; simp
  rw [← hW]
  clear hW
  refine (specTf_any t a ca W HS.out (HA.out.below HB.out)).mono ?_
  rintro e w1 ⟨rfl, hb1⟩
  have HB1 : Hid (Below w.heap.size w w1) := below_then HB.out hb1
  have c0 := cell_below b0 hb1
  have c1 := cell_below b1 hb1
  have R2 := B2.below hb1
  have sf : ∀ i, w1.frozen? ⟨w.heap.size + 1, i, none⟩ = false := fun i => (hb1.frozen (p := ⟨_, i, none⟩) (by show w.heap.size + 1 < W.heap.size; omega)).trans (rf i)
  have hs1 : w.heap.size + 2 ≤ w1.heap.size := by have := hb1.size; omega
  clear hb1 b0 b1 B2 rf HB hsz
  by_cases hg : trF t = 0
  · obtain ⟨hn1, hn, hG, hr, hf⟩ := trF_good hg
    have HC : Hid (trF t = 0) := hg
    have hal := allK_len hg
    obtain ⟨q, hq⟩ : ∃ q : Nat, t.root = q := ⟨t.root.toNat, by omega⟩
    have htq : t.root.toNat = q := by omega
    rw [htq] at hf hal
    have HPE : Hid (fil lo hi (allK t.T (t.n + 1) t.root.toNat) = fil lo hi (allK t.T (t.n + 1) q)) := by rw [htq]; rfl
    rw [hg]
    have HI : Hid (∀ o : Obj, o = .cells #[.int .i64 0, .slice none 0 0] 41 → Kl w (w1.alloc o) w1.heap.size (w1.heap.size + 1) (.slice none 0 0) []) := by
      rintro o rfl
      exact ⟨below_then HB1.out (below_new _ _), hs1, Nat.le_refl _, by simp, R2.alloc _, fun i => ((bcell2 (below_new w1 _)).2 _ _ (by omega)).trans (sf i), Box2.new _ _ _ _, fun i => by simp [go_sem], ⟨by simp [il], .inl ⟨rfl, rfl⟩⟩⟩
    have HLA : Hid (∀ o : Obj, Calls Try.prog 59 #[.pointer (some ⟨w.heap.size, 0, none⟩), .int .i64 q] (w1.alloc o) (RAn (allK t.T (t.n + 1) q) (w1.alloc o))) := fun o =>
      l4All_any w.heap.size t.n ca a t.T hn hG (t.n + 1) q (w1.alloc o) (cell_alloc c1 o) ((HA.out.below HB1.out).below (below_new _ _)) (by omega) hf (by omega)
    rw [hq] at c0
    have C0 := fun o : Obj => cell_alloc c0 o
    clear hg hG hr hf hq htq hn hn1 R2 sf
    generalize allK t.T (t.n + 1) q = A at *
    go_wp2_with fail
    refine (HLA.out _).mono ?_
    intro e w2 hpost
    unfold RAn at hpost
    obtain ⟨v2, he, hb2, ho2⟩ := hpost
    subst he
    obtain ⟨aa, ac, rfl, hint⟩ := ownI_of_row ho2
    have HK0 : Hid (Kl w w2 w1.heap.size w2.heap.size (.slice none 0 0) []) := by
      have h9 := (HI.out _ rfl).mono hb2
      exact ⟨h9.below, h9.hB, h9.hsz, Nat.le_refl _, h9.r, h9.rf, h9.b, h9.bf, ⟨by simp [il], .inl ⟨rfl, rfl⟩⟩⟩
    have HAI : Hid (AP w2 w1.heap.size w2.heap.size aa A.length (zI A)) := by
      obtain ⟨h0, h1 | ⟨g, off, ha, h2, h3, hc, _⟩⟩ := hint
      · exact .inl h1
      · exact .inr ⟨g, off, ha, by simp at h2; omega, h3, h3, hc⟩
    clear hint ho2 hb2 C0 c0 c1 HI HLA
    go_wp2_with fail
    go_loopw [10] (fun i wr => ∃ k : Nat, ∃ v, k ≤ A.length ∧ i = .int .i64 k ∧ Hid (Kl w wr w1.heap.size w2.heap.size v (fil lo hi (zL (zI A) k))) ∧ Hid (AP wr w1.heap.size w2.heap.size aa A.length (zI A))) (fun i _ => A.length - (intOf i).toNat)
    case atStart => exact ⟨0, _, Nat.zero_le _, rfl, by simpa [Hid, zL, fil] using HK0.out, HAI⟩
    case round =>
      obtain ⟨k, v, hk, rfl, HO, HAr⟩ := hrel
      by_cases hlt : k < A.length
      · have hlt' : (k : Int) < (A.length : Int) := by omega
        have hk0 : (0 : Int) ≤ (k : Int) := by omega
        rcases HAr.out with h | ⟨bb, off, rfl, hbB, hbM, hl, hcc⟩
        · omega
        have hx := hcc k hlt
        have hzs := zL_succ (zI A) k
        clear hcc
        cases hin : inB (zI A k) lo hi
        · have HK2 : Hid (Kl w wr w1.heap.size w2.heap.size v (fil lo hi (zL (zI A) (k + 1)))) := by rw [hzs, fil_out hin]; exact HO
          clear hzs
          generalize zI A k = tk at *
          go_wp2_with (go_at_call 43; refine (l1In_any _ _ _ _).mono ?_; rintro e w' ⟨rfl, hw⟩; have hw1 := hw.symm; clear hw; subst hw1; rw [hin])
          go_roundw
          case rel => exact ⟨k + 1, v, hlt, by go_num, HK2, HAr⟩
          case measure => simp [intOf]; omega
        · have HE1 : Hid (fil lo hi (zL (zI A) (k + 1)) = fil lo hi (zL (zI A) k) ++ [zI A k]) := by show _ = _; rw [hzs, fil_in hin]
          have HLK : Hid ((fil lo hi (zL (zI A) k)).length ≤ 100000) := by have h1 := fil_len lo hi (zL (zI A) k); rw [zL_len] at h1; show _ ≤ _; omega
          clear hzs
          generalize zI A k = tk at *
          generalize fil lo hi (zL (zI A) k) = L1 at *
          have c1 := HO.out.b.2
          have HHM := HO.out.hM
          have hsz : w1.heap.size + 1 ≤ wr.heap.size := by have := HO.out.hsz; omega
          have HOA : Hid (∀ o1 : Obj, Kl w (wr.drew.alloc o1) w1.heap.size w2.heap.size v L1) := fun o1 => (HO.out.mono ((Below.refl _ _).drew)).mono (below_new _ _)
          have HAG : Hid (∀ (o1 : Obj) w9 v9, (wr.drew.alloc o1).grownBy w9 v.ownBlock → AP (w9.setCell ⟨w1.heap.size, 1, none⟩ v9) w1.heap.size w2.heap.size (some ⟨bb, off, none⟩) A.length (zI A)) := fun o1 w9 v9 hg9 =>
            ((HAr.out.mono ((Below.refl _ _).drew)).mono (below_new _ o1)).app hg9 fun q hq => (ownI_lt HO.out.own q hq).1
          have HMS : Hid (w2.heap.size ≤ wr.heap.size) := HO.out.hsz
          have d1 := fun o : Obj => cell_alloc c1 o
          have d2 := fun o : Obj => cell_alloc hx o
          have HLT : Hid (k < A.length) := hlt
          clear HO HHM HAr
          go_wp2_with (go_at_call 43; refine (l1In_any _ _ _ _).mono ?_; rintro e w' ⟨rfl, hw⟩; have hw1 := hw.symm; clear hw; subst hw1; rw [hin])
          go_region_law (first | (refine step_appI _ rfl (.tmp 35) (.tmp 40) rfl w2.heap.size v L1 rfl (HOA.out _).own wr.heap.size 0 1 tk rfl (by simp [go_sem]) (by have := HMS.out; simp; omega) HLK.out ?_; intro v2 w3 ho3 hg3; obtain ⟨va2, vc2, rfl⟩ := row1_slice ho3; obtain ⟨hn, c2, cf⟩ := Kl.app (HOA.out _) hg3 ho3; have HAN : Hid (AP (w3.setCell ⟨w1.heap.size, 1, none⟩ (.slice va2 (L1 ++ [tk]).length vc2)) w1.heap.size w2.heap.size (some ⟨bb, off, none⟩) A.length (zI A)) := HAG.out _ w3 _ hg3; have HN : Hid (Kl w (w3.setCell ⟨w1.heap.size, 1, none⟩ (.slice va2 (L1 ++ [tk]).length vc2)) w1.heap.size w2.heap.size (.slice va2 (L1 ++ [tk]).length vc2) (L1 ++ [tk])) := hn; clear hn ho3 hg3))
          all_goals
            go_wp2_with fail
            go_roundw
            case rel => exact ⟨k + 1, _, HLT.out, by go_num, by rw [HE1.out]; first | exact HN | (have h := HN.out; simp only [List.length_append, List.length_cons, List.length_nil, Nat.zero_add] at h; exact h), by first | exact HAN | (have h := HAN.out; simp only [List.length_append, List.length_cons, List.length_nil, Nat.zero_add] at h; exact h)⟩
            case measure => simp [intOf]; omega
      · have hkn : k = A.length := by omega
        have hnl : ¬ ((k : Int) < (A.length : Int)) := by omega
        obtain ⟨va, vc, rfl, -⟩ := ownI_of_row HO.out.own
        have hhB := HO.out.hB
        have HZA : Hid (fil lo hi (zL (zI A) k) = fil lo hi A) := by show _ = _; rw [hkn, zL_zI]
        have HF : Hid (∀ w7, Writes (w.heap.size + 1) (w.heap.size + 2) wr w7 → w7.heap.size = wr.heap.size → IRes (trF t) (fil lo hi (allK t.T (t.n + 1) t.root.toNat)) w (.returned (.agg #[.int .i64 0, .slice va (fil lo hi (zL (zI A) k)).length vc])) w7) := fun w7 hw hs7 => by
          have hO := HO.out
          rw [HPE.out]
          rw [HZA.out] at hO ⊢
          have hM9 := hO.hM
          exact ires_ok HC.out hO.below (by omega) (by omega) (by omega) hO.own hw hs7
        obtain ⟨r0, r1⟩ := HO.out.r
        obtain ⟨g0, g1⟩ := HO.out.b
        have rf := HO.out.rf
        clear HO hkn HZA
        generalize (fil lo hi (zL (zI A) k)).length = len at *
        go_wp2_with fail
        refine bodyPost_ret (v := .agg #[.int .i64 0, .slice va len vc]) (by simp [results, Try.results27, go_sem, *]) rfl ?_
        refine HF.out _ ?_ (by simp [World.setCell])
        repeat (first | with_reducible exact Writes.refl _ _ _ | with_reducible refine Writes.setCell ?_ (by first | omega | (simp <;> omega)) (by first | omega | (simp <;> omega)) _)
  · have hne : (trF t != 0) = true := by simp [hg]
    obtain ⟨tc, htc⟩ : ∃ x, x = trF t := ⟨_, rfl⟩
    have HC : Hid (trF t = tc ∧ tc ≠ 0) := ⟨htc.symm, by rw [htc]; exact hg⟩
    rw [← htc] at hne ⊢
    obtain ⟨s0', s1'⟩ := R2
    clear hg htc
    go_wp2_with fail
    refine bodyPost_ret (v := .agg #[.int .i64 tc, .slice none 0 0]) (by simp [results, Try.results27, go_sem, s0', s1']) rfl ?_
    refine ires_no HC.out ?_
    repeat (first | with_reducible exact HB1.out | with_reducible refine Below.setCell ?_ (by first | omega | (simp <;> omega)) _)
end Go.Proofs.Ytbnehgpefjbheaa
