/- Marks with greater bounds. -/
import Derived.Test.YtnplheilojhpmaaGreatQZsb
namespace Go.Proofs.YtnplheilojhpmaaGreat
open Go.ChangeShapes Go.WideShapes Go.ChangeAt Go.RowKit Go.Deep Go.Joins
set_option linter.unusedVariables false
set_option maxRecDepth 20000

theorem sPg_le {t : Sto} (h : SmSt t) : sPg t.pT t.pn ≤ 4194304 := by
  have h1 := h.1.1
  have h2 := h.1.2.2
  have h3 := sPg_eq t.pT t.pn
  omega
set_option maxHeartbeats 400000 in
theorem markDisk_b (D : Dk) (a a' : Option Addr) (cap cap' lo hi : Nat) (m : Int) (w : World) (hs : Small D) (hm1 : 0 ≤ m) (hm2 : m ≤ 6291456) (h : OwnD w lo hi a a' D) :
    Calls Tryz.prog 36 #[.agg #[.slice a D.n cap, .slice a' D.m cap'], .int .i64 m] w fun e w' => e = .returned (.int .i64 (m + tot D)) ∧ Writes lo hi w w' ∧ OwnD w' lo hi a a' (mD m D) := by
  have HS : Hid (Small D) := hs
  have hsum := hs.s
  unfold tot mD
  obtain ⟨n, L, Z, n', P, T, M, Y⟩ := D
  obtain ⟨h0, l1, h1, l2, h2, e1, e2, e3, e4, e5, hp, hl⟩ := h
  dsimp only at *
  have HP : Hid (OwnP w l1 h1 a n L Z) := hp
  have HL : Hid (OwnL w l2 h2 a' n' P T M Y) := hl
  clear hs hp hl
  go_enter Tryz.func36, Tryz.ntmps36
  go_wp2_with fail
  refine (markByteSS_any n L Z a cap l1 h1 m _ HS.out.n HS.out.s hm1 (by omega) (HP.out.below (below_new _ _))).mono ?_
  rintro e w1 ⟨rfl, hw1, ho1⟩
  have HW : Hid (Writes l1 h1 w w1) := (Writes.of_below (below_new _ _)).trans hw1
  have hlt : h1 ≤ w.heap.size := HP.out.1
  have q1 : w1.cell? ⟨w.heap.size, 1, none⟩ = some (.slice a' n' cap') := by
    rw [hw1.cell (by simp) (by omega) _]; simp [go_sem]
  have HO1 : Hid (OwnP w1 l1 h1 a n L (mZ m L)) := ho1
  have hz1 : w.heap.size ≤ w1.heap.size := HW.out.size
  clear hw1 ho1
  go_wp2_with fail
  refine (markLooseS_any n' P T M Y a' cap' l2 h2 (m + sumL L n) _ HS.out.m HS.out.t (by omega) (by omega) (HL.out.writes HW.out (by omega))).mono ?_
  rintro e w2 ⟨rfl, hw2, ho2⟩
  have hz2 : w1.heap.size ≤ w2.heap.size := hw2.size
  go_wp2_with fail
  go_ret
  refine ⟨ret_int (by rw [Int.natCast_add]; omega), (HW.out.wide e1 e2).trans (hw2.wide e3 e4), ?_⟩
  exact OwnD.mk' (by omega) e1 e2 e3 e4 e5 (HO1.out.writes hw2 (by omega)) ho2
theorem markLog_b (L : Lo) (a1 a2 : Option Addr) (c1 c2 lo hi : Nat) (m : Int) (w : World) (hn1 : L.n1 ≤ 1048576) (hn2 : L.n2 ≤ 1048576) (hm1 : 0 ≤ m) (hm2 : m ≤ 33554432) (h : OwnG w lo hi a1 a2 L) :
    Calls Tryz.prog 37 #[.agg #[.slice a1 L.n1 c1, .slice a2 L.n2 c2], .int .i64 m] w fun e w' => e = .returned (.int .i64 (m + (L.n1 + L.n2 : Nat))) ∧ Writes lo hi w w' ∧ OwnG w' lo hi a1 a2 (mG m L) := by
  obtain ⟨n, z, k, y⟩ := L
  obtain ⟨h0, l1, h1, l2, h2, e1, e2, e3, e4, e5, hp, hl⟩ := h
  unfold mG
  dsimp only at *
  have HP : Hid (OwnB w l1 h1 a1 n z) := hp
  have HL : Hid (OwnB w l2 h2 a2 k y) := hl
  clear hp hl
  go_enter Tryz.func37, Tryz.ntmps37
  go_wp2_with fail
  refine (markByteS_any n z a1 c1 l1 h1 m _ (by omega) hm1 (by omega) (HP.out.below (below_new _ _))).mono ?_
  rintro e w1 ⟨rfl, hw1, ho1⟩
  have HW : Hid (Writes l1 h1 w w1) := (Writes.of_below (below_new _ _)).trans hw1
  have hlt : h1 ≤ w.heap.size := HP.out.1
  have q1 : w1.cell? ⟨w.heap.size, 1, none⟩ = some (.slice a2 k c2) := by
    rw [hw1.cell (by simp) (by omega) _]; simp [go_sem]
  have HO1 : Hid (OwnB w1 l1 h1 a1 n (bk m)) := ho1
  have hz1 : w.heap.size ≤ w1.heap.size := HW.out.size
  clear hw1 ho1
  go_wp2_with fail
  refine (markByteS_any k y a2 c2 l2 h2 (m + n) _ (by omega) (by omega) (by omega) (HL.out.writes HW.out (by omega))).mono ?_
  rintro e w2 ⟨rfl, hw2, ho2⟩
  have hz2 : w1.heap.size ≤ w2.heap.size := hw2.size
  go_wp2_with fail
  go_ret
  have wd : ∀ {a b c d : Nat} {u v : World}, Writes a b u v → c ≤ a → b ≤ d → Writes c d u v := fun hh g1 g2 => ⟨hh.os, hh.tape, hh.output, hh.size, fun q hq hd => hh.block q hq (by omega)⟩
  exact ⟨ret_int (by omega), (wd HW.out e1 e2).trans (wd hw2 e3 e4), by omega, l1, h1, l2, h2, e1, e2, e3, e4, e5, HO1.out.writes hw2 (by omega), ho2⟩
set_option maxHeartbeats 4000000 in
theorem markStore_b (t : Sto) (a0 : Option Addr) (c0 : Nat) (a1 : Option Addr) (c1 : Nat) (a2 : Option Addr) (c2 : Nat) (a3 : Option Addr) (c3 : Nat) (a4 : Option Addr) (c4 : Nat) (a5 : Option Addr) (c5 : Nat) (a6 : Option Addr) (c6 : Nat) (lo hi : Nat) (w : World) (hs0 : SmSt t) (h : OwnS w lo hi a0 a1 a2 a3 a4 a5 a6 t) :
    Calls Tryz.prog 10 #[.agg #[.int .i64 t.nx, .slice a0 t.pn c0, .slice a1 t.d.n c1, .slice a2 t.d.m c2, .slice a3 t.g.n1 c3, .slice a4 t.g.n2 c4, .slice a5 t.hn c5, .slice a6 t.on c6], .int .i64 1] w fun e w' => e = .returned (.int .i64 (1 + totS t)) ∧ Writes lo hi w w' ∧ OwnS w' lo hi a0 a1 a2 a3 a4 a5 a6 (mS 1 t) := by
  have hs : SmSt t ∧ sPg t.pT t.pn + tot t.d + t.g.n1 + t.g.n2 ≤ 10485760 := ⟨hs0, by have := sPg_le hs0; have := tot_le hs0.2.1; have := hs0.2.2.1; omega⟩
  have HS : Hid (SmSt t ∧ sPg t.pT t.pn + tot t.d + t.g.n1 + t.g.n2 ≤ 10485760) := hs
  have hpp := sPg_le hs0
  have htt := tot_le hs0.2.1
  have hf := hs.2
  have hhn := hs.1.2.2.2.1
  have hon := hs.1.2.2.2.2
  obtain ⟨h0, col, hc, h1, ⟨l2, u2, g2, h2⟩, ⟨l3, u3, g3, h3⟩, ⟨l4, u4, g4, h4⟩, ⟨l5, u5, g5, h5⟩⟩ := h
  have HC : Hid (∀ x, col x ≠ 0 → lo ≤ x ∧ x < hi) := hc
  have HT : Hid ((totS t : Int) = sPg t.pT t.pn + tot t.d + (t.g.n1 + t.g.n2 : Nat) + t.hn * 2 + t.on) := by simp [totS, Hid]
  have H1 : Hid (OwnPgP w (fun x => col x = 1) a0 t.pn t.pT) := h1
  have H2 : Hid (OwnD w l2 u2 a1 a2 t.d) := h2
  have H3 : Hid (OwnG w l3 u3 a3 a4 t.g) := h3
  have H4 : Hid (Own w l4 u4 a5 t.hn t.hK t.hV) := h4
  have H5 : Hid (OwnI w l5 u5 a6 t.on t.oF) := h5
  have HG : Hid ((∀ x, l2 ≤ x → x < u2 → col x = 2) ∧ (∀ x, l3 ≤ x → x < u3 → col x = 3) ∧ (∀ x, l4 ≤ x → x < u4 → col x = 4) ∧ ∀ x, l5 ≤ x → x < u5 → col x = 5) := ⟨g2, g3, g4, g5⟩
  have HZ : Hid (∀ k, k ≠ 0 → col w.heap.size ≠ k) := fun k hk e => by have := hc w.heap.size (by omega); omega
  clear hs h1 h2 h3 h4 h5 g2 g3 g4 g5 hc
  go_enter Tryz.func10, Tryz.ntmps10
  go_wp2_with fail
  refine (markPageS_P t.pn t.pT a0 c0 (fun x => col x = 1) 1 _ HS.out.1.1.1 HS.out.1.1.2.2 (by omega) (by omega) (H1.out.keep (below_new _ _).size fun x _ hl => (below_new _ _).block x hl)).mono ?_
  rintro e w1 ⟨rfl, hw, ho⟩
  have q2 : w1.cell? ⟨w.heap.size, 2, none⟩ = some (.slice a1 t.d.n c1) := by
    rw [World.cell?_of_block (w := w.alloc _) (a := ⟨w.heap.size, 2, none⟩) (hw.block w.heap.size (by simp) (HZ.out 1 (by omega)))]; simp [go_sem]
  have q3 : w1.cell? ⟨w.heap.size, 3, none⟩ = some (.slice a2 t.d.m c2) := by
    rw [World.cell?_of_block (w := w.alloc _) (a := ⟨w.heap.size, 3, none⟩) (hw.block w.heap.size (by simp) (HZ.out 1 (by omega)))]; simp [go_sem]
  have q4 : w1.cell? ⟨w.heap.size, 4, none⟩ = some (.slice a3 t.g.n1 c3) := by
    rw [World.cell?_of_block (w := w.alloc _) (a := ⟨w.heap.size, 4, none⟩) (hw.block w.heap.size (by simp) (HZ.out 1 (by omega)))]; simp [go_sem]
  have q5 : w1.cell? ⟨w.heap.size, 5, none⟩ = some (.slice a4 t.g.n2 c4) := by
    rw [World.cell?_of_block (w := w.alloc _) (a := ⟨w.heap.size, 5, none⟩) (hw.block w.heap.size (by simp) (HZ.out 1 (by omega)))]; simp [go_sem]
  have q6 : w1.cell? ⟨w.heap.size, 6, none⟩ = some (.slice a5 t.hn c5) := by
    rw [World.cell?_of_block (w := w.alloc _) (a := ⟨w.heap.size, 6, none⟩) (hw.block w.heap.size (by simp) (HZ.out 1 (by omega)))]; simp [go_sem]
  have q7 : w1.cell? ⟨w.heap.size, 7, none⟩ = some (.slice a6 t.on c6) := by
    rw [World.cell?_of_block (w := w.alloc _) (a := ⟨w.heap.size, 7, none⟩) (hw.block w.heap.size (by simp) (HZ.out 1 (by omega)))]; simp [go_sem]
  have HW1 : Hid (WritesP (fun x => col x = 1) w w1) := (WritesP.below (below_new _ _)).trans hw
  have hz1 : w.heap.size < w1.heap.size := by have := hw.size; simp at this; omega
  replace H1 : Hid (OwnPgP w1 (fun x => col x = 1) a0 t.pn (mPg 1 t.pT)) := ho
  replace H2 : Hid (OwnD w1 l2 u2 a1 a2 t.d) := H2.out.keep HW1.out.size fun x x1 x2 x3 => HW1.out.block x x3 (by show ¬ col x = 1; rw [HG.out.1 x x1 x2]; omega)
  replace H3 : Hid (OwnG w1 l3 u3 a3 a4 t.g) := H3.out.keep HW1.out.size fun x x1 x2 x3 => HW1.out.block x x3 (by show ¬ col x = 1; rw [HG.out.2.1 x x1 x2]; omega)
  replace H4 : Hid (Own w1 l4 u4 a5 t.hn t.hK t.hV) := H4.out.keep HW1.out.size fun x x1 x2 x3 => HW1.out.block x x3 (by show ¬ col x = 1; rw [HG.out.2.2.1 x x1 x2]; omega)
  replace H5 : Hid (OwnI w1 l5 u5 a6 t.on t.oF) := H5.out.keep HW1.out.size fun x x1 x2 x3 => HW1.out.block x x3 (by show ¬ col x = 1; rw [HG.out.2.2.2 x x1 x2]; omega)
  have HWW : Hid (Writes lo hi w w1) := HW1.out.to fun x hx => HC.out x (by rw [hx]; omega)
  clear hw ho HW1
  go_wp2_with fail
  refine (markDisk_b t.d a1 a2 c1 c2 l2 u2 (1 + sPg t.pT t.pn) _ HS.out.1.2.1 (by omega) (by omega) H2.out).mono ?_
  rintro e w2 ⟨rfl, hw, ho⟩
  have HWP : Hid (WritesP (fun x => col x = 2) w1 w2) := WritesP.of hw HG.out.1
  have hz2 : w.heap.size < w2.heap.size := by have := hw.size; omega
  replace q4 : w2.cell? ⟨w.heap.size, 4, none⟩ = some (.slice a3 t.g.n1 c3) := (World.cell?_of_block (w := w1) (a := ⟨w.heap.size, 4, none⟩) (HWP.out.block w.heap.size hz1 (HZ.out 2 (by omega)))).trans q4
  replace q5 : w2.cell? ⟨w.heap.size, 5, none⟩ = some (.slice a4 t.g.n2 c4) := (World.cell?_of_block (w := w1) (a := ⟨w.heap.size, 5, none⟩) (HWP.out.block w.heap.size hz1 (HZ.out 2 (by omega)))).trans q5
  replace q6 : w2.cell? ⟨w.heap.size, 6, none⟩ = some (.slice a5 t.hn c5) := (World.cell?_of_block (w := w1) (a := ⟨w.heap.size, 6, none⟩) (HWP.out.block w.heap.size hz1 (HZ.out 2 (by omega)))).trans q6
  replace q7 : w2.cell? ⟨w.heap.size, 7, none⟩ = some (.slice a6 t.on c6) := (World.cell?_of_block (w := w1) (a := ⟨w.heap.size, 7, none⟩) (HWP.out.block w.heap.size hz1 (HZ.out 2 (by omega)))).trans q7
  replace H1 : Hid (OwnPgP w2 (fun x => col x = 1) a0 t.pn (mPg 1 t.pT)) := H1.out.keep HWP.out.size fun x hx hl => HWP.out.block x hl (by show ¬ col x = 2; rw [hx]; omega)
  replace H2 : Hid (OwnD w2 l2 u2 a1 a2 (mD (1 + sPg t.pT t.pn) t.d)) := ho
  replace H3 : Hid (OwnG w2 l3 u3 a3 a4 t.g) := H3.out.keep HWP.out.size fun x x1 x2 x3 => HWP.out.block x x3 (by show ¬ col x = 2; rw [HG.out.2.1 x x1 x2]; omega)
  replace H4 : Hid (Own w2 l4 u4 a5 t.hn t.hK t.hV) := H4.out.keep HWP.out.size fun x x1 x2 x3 => HWP.out.block x x3 (by show ¬ col x = 2; rw [HG.out.2.2.1 x x1 x2]; omega)
  replace H5 : Hid (OwnI w2 l5 u5 a6 t.on t.oF) := H5.out.keep HWP.out.size fun x x1 x2 x3 => HWP.out.block x x3 (by show ¬ col x = 2; rw [HG.out.2.2.2 x x1 x2]; omega)
  replace HWW : Hid (Writes lo hi w w2) := HWW.out.trans (HWP.out.to fun x hx => HC.out x (by rw [hx]; omega))
  clear hw ho HWP
  go_wp2_with fail
  refine (markLog_b t.g a3 a4 c3 c4 l3 u3 (1 + sPg t.pT t.pn + tot t.d) _ HS.out.1.2.2.1.1 HS.out.1.2.2.1.2 (by omega) (by omega) H3.out).mono ?_
  rintro e w3 ⟨rfl, hw, ho⟩
  have HWP : Hid (WritesP (fun x => col x = 3) w2 w3) := WritesP.of hw HG.out.2.1
  have hz3 : w.heap.size < w3.heap.size := by have := hw.size; omega
  replace q6 : w3.cell? ⟨w.heap.size, 6, none⟩ = some (.slice a5 t.hn c5) := (World.cell?_of_block (w := w2) (a := ⟨w.heap.size, 6, none⟩) (HWP.out.block w.heap.size hz2 (HZ.out 3 (by omega)))).trans q6
  replace q7 : w3.cell? ⟨w.heap.size, 7, none⟩ = some (.slice a6 t.on c6) := (World.cell?_of_block (w := w2) (a := ⟨w.heap.size, 7, none⟩) (HWP.out.block w.heap.size hz2 (HZ.out 3 (by omega)))).trans q7
  replace H1 : Hid (OwnPgP w3 (fun x => col x = 1) a0 t.pn (mPg 1 t.pT)) := H1.out.keep HWP.out.size fun x hx hl => HWP.out.block x hl (by show ¬ col x = 3; rw [hx]; omega)
  replace H2 : Hid (OwnD w3 l2 u2 a1 a2 (mD (1 + sPg t.pT t.pn) t.d)) := H2.out.keep HWP.out.size fun x x1 x2 x3 => HWP.out.block x x3 (by show ¬ col x = 3; rw [HG.out.1 x x1 x2]; omega)
  replace H3 : Hid (OwnG w3 l3 u3 a3 a4 (mG (1 + sPg t.pT t.pn + tot t.d) t.g)) := ho
  replace H4 : Hid (Own w3 l4 u4 a5 t.hn t.hK t.hV) := H4.out.keep HWP.out.size fun x x1 x2 x3 => HWP.out.block x x3 (by show ¬ col x = 3; rw [HG.out.2.2.1 x x1 x2]; omega)
  replace H5 : Hid (OwnI w3 l5 u5 a6 t.on t.oF) := H5.out.keep HWP.out.size fun x x1 x2 x3 => HWP.out.block x x3 (by show ¬ col x = 3; rw [HG.out.2.2.2 x x1 x2]; omega)
  replace HWW : Hid (Writes lo hi w w3) := HWW.out.trans (HWP.out.to fun x hx => HC.out x (by rw [hx]; omega))
  clear hw ho HWP
  go_wp2_with fail
  refine (markHeldS_any t.hn t.hK t.hV a5 c5 l4 u4 (1 + sPg t.pT t.pn + tot t.d + (t.g.n1 + t.g.n2 : Nat)) _ (by omega) (by omega) (by omega) H4.out).mono ?_
  rintro e w4 ⟨rfl, hw, ho⟩
  have HWP : Hid (WritesP (fun x => col x = 4) w3 w4) := WritesP.of hw HG.out.2.2.1
  have hz4 : w.heap.size < w4.heap.size := by have := hw.size; omega
  replace q7 : w4.cell? ⟨w.heap.size, 7, none⟩ = some (.slice a6 t.on c6) := (World.cell?_of_block (w := w3) (a := ⟨w.heap.size, 7, none⟩) (HWP.out.block w.heap.size hz3 (HZ.out 4 (by omega)))).trans q7
  replace H1 : Hid (OwnPgP w4 (fun x => col x = 1) a0 t.pn (mPg 1 t.pT)) := H1.out.keep HWP.out.size fun x hx hl => HWP.out.block x hl (by show ¬ col x = 4; rw [hx]; omega)
  replace H2 : Hid (OwnD w4 l2 u2 a1 a2 (mD (1 + sPg t.pT t.pn) t.d)) := H2.out.keep HWP.out.size fun x x1 x2 x3 => HWP.out.block x x3 (by show ¬ col x = 4; rw [HG.out.1 x x1 x2]; omega)
  replace H3 : Hid (OwnG w4 l3 u3 a3 a4 (mG (1 + sPg t.pT t.pn + tot t.d) t.g)) := H3.out.keep HWP.out.size fun x x1 x2 x3 => HWP.out.block x x3 (by show ¬ col x = 4; rw [HG.out.2.1 x x1 x2]; omega)
  replace H4 : Hid (Own w4 l4 u4 a5 t.hn (mK (1 + sPg t.pT t.pn + tot t.d + (t.g.n1 + t.g.n2 : Nat))) (mK (1 + sPg t.pT t.pn + tot t.d + (t.g.n1 + t.g.n2 : Nat) + 1))) := ho
  replace H5 : Hid (OwnI w4 l5 u5 a6 t.on t.oF) := H5.out.keep HWP.out.size fun x x1 x2 x3 => HWP.out.block x x3 (by show ¬ col x = 4; rw [HG.out.2.2.2 x x1 x2]; omega)
  replace HWW : Hid (Writes lo hi w w4) := HWW.out.trans (HWP.out.to fun x hx => HC.out x (by rw [hx]; omega))
  clear hw ho HWP
  go_wp2_with fail
  refine (markInt64S_any t.on t.oF a6 c6 l5 u5 (1 + sPg t.pT t.pn + tot t.d + (t.g.n1 + t.g.n2 : Nat) + t.hn * 2) _ (by omega) (by omega) (by omega) H5.out).mono ?_
  rintro e w5 ⟨rfl, hw, ho⟩
  have HWP : Hid (WritesP (fun x => col x = 5) w4 w5) := WritesP.of hw HG.out.2.2.2
  have hz5 : w.heap.size < w5.heap.size := by have := hw.size; omega
  replace H1 : Hid (OwnPgP w5 (fun x => col x = 1) a0 t.pn (mPg 1 t.pT)) := H1.out.keep HWP.out.size fun x hx hl => HWP.out.block x hl (by show ¬ col x = 5; rw [hx]; omega)
  replace H2 : Hid (OwnD w5 l2 u2 a1 a2 (mD (1 + sPg t.pT t.pn) t.d)) := H2.out.keep HWP.out.size fun x x1 x2 x3 => HWP.out.block x x3 (by show ¬ col x = 5; rw [HG.out.1 x x1 x2]; omega)
  replace H3 : Hid (OwnG w5 l3 u3 a3 a4 (mG (1 + sPg t.pT t.pn + tot t.d) t.g)) := H3.out.keep HWP.out.size fun x x1 x2 x3 => HWP.out.block x x3 (by show ¬ col x = 5; rw [HG.out.2.1 x x1 x2]; omega)
  replace H4 : Hid (Own w5 l4 u4 a5 t.hn (mK (1 + sPg t.pT t.pn + tot t.d + (t.g.n1 + t.g.n2 : Nat))) (mK (1 + sPg t.pT t.pn + tot t.d + (t.g.n1 + t.g.n2 : Nat) + 1))) := H4.out.keep HWP.out.size fun x x1 x2 x3 => HWP.out.block x x3 (by show ¬ col x = 5; rw [HG.out.2.2.1 x x1 x2]; omega)
  replace H5 : Hid (OwnI w5 l5 u5 a6 t.on (ik (1 + sPg t.pT t.pn + tot t.d + (t.g.n1 + t.g.n2 : Nat) + t.hn * 2))) := ho
  replace HWW : Hid (Writes lo hi w w5) := HWW.out.trans (HWP.out.to fun x hx => HC.out x (by rw [hx]; omega))
  clear hw ho HWP
  go_wp2_with fail
  go_ret
  refine ⟨ret_int (by rw [HT.out]; omega), HWW.out, ?_⟩
  exact ⟨by have := HWW.out.size; omega, col, HC.out, H1.out, ⟨l2, u2, HG.out.1, H2.out⟩, ⟨l3, u3, HG.out.2.1, H3.out⟩, ⟨l4, u4, HG.out.2.2.1, H4.out⟩, ⟨l5, u5, HG.out.2.2.2, H5.out⟩⟩
end Go.Proofs.YtnplheilojhpmaaGreat
