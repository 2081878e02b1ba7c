/- Stores in sets of blocks of their own (a colour for each list): marked, held; answers that are stores. -/
import Derived.Test.YtjggplfhkejbbaaQZsa
import Derived.Test.YtjggplfhkejbbaaQZpb
import Derived.Test.YtjggplfhkejbbaaQDm
import Derived.Test.YtjggplfhkejbbaaQLk
import Derived.Test.YtjggplfhkejbbaaQZfc
namespace Go.Proofs.Ytjggplfhkejbbaa
open Go.ChangeShapes Go.WideShapes Go.ChangeAt Go.RowKit Go.Deep Go.Joins
set_option linter.unusedVariables false
set_option maxRecDepth 20000

/-- A store whose lists lie in blocks of colours of their own, all from lo on below hi. -/
def OwnS (w : World) (lo hi : Nat) (a0 a1 a2 a3 a4 a5 a6 : Option Addr) (t : Sto) : Prop :=
  hi ≤ w.heap.size ∧ ∃ col : Nat → Nat, (∀ x, col x ≠ 0 → lo ≤ x ∧ x < hi) ∧ OwnPgP w (fun x => col x = 1) a0 t.pn t.pT ∧ (∃ l h, (∀ x, l ≤ x → x < h → col x = 2) ∧ OwnD w l h a1 a2 t.d) ∧ (∃ l h, (∀ x, l ≤ x → x < h → col x = 3) ∧ OwnG w l h a3 a4 t.g) ∧ (∃ l h, (∀ x, l ≤ x → x < h → col x = 4) ∧ Own w l h a5 t.hn t.hK t.hV) ∧ (∃ l h, (∀ x, l ≤ x → x < h → col x = 5) ∧ OwnI w l h a6 t.on t.oF)
theorem OwnS.at {w : World} {lo hi : Nat} {a0 a1 a2 a3 a4 a5 a6 : Option Addr} {t : Sto} (h : OwnS w lo hi a0 a1 a2 a3 a4 a5 a6 t) : InSt w a0 a1 a2 a3 a4 a5 a6 t := by
  obtain ⟨_, col, _, h1, ⟨_, _, _, h2⟩, ⟨_, _, _, h3⟩, ⟨_, _, _, h4⟩, ⟨_, _, _, h5⟩⟩ := h
  exact ⟨h1.at, h2.at, h3.at, h4.at, h5.at⟩
theorem OwnS.keep {w w' : World} {lo hi : Nat} {a0 a1 a2 a3 a4 a5 a6 : Option Addr} {t : Sto} (h : OwnS w lo hi a0 a1 a2 a3 a4 a5 a6 t) (hs : w.heap.size ≤ w'.heap.size) (hk : ∀ x, lo ≤ x → x < hi → x < w.heap.size → w'.heap[x]? = w.heap[x]?) : OwnS w' lo hi a0 a1 a2 a3 a4 a5 a6 t := by
  obtain ⟨h0, col, hc, h1, ⟨l2, u2, g2, h2⟩, ⟨l3, u3, g3, h3⟩, ⟨l4, u4, g4, h4⟩, ⟨l5, u5, g5, h5⟩⟩ := h
  have hq : ∀ x, col x ≠ 0 → x < w.heap.size → w'.heap[x]? = w.heap[x]? := fun x hx hl => hk x (hc x hx).1 (hc x hx).2 hl
  refine ⟨Nat.le_trans h0 hs, col, hc, h1.keep hs fun x hx hl => hq x (by rw [hx]; omega) hl, ⟨l2, u2, g2, h2.keep hs fun x x1 x2 x3 => hq x (by rw [g2 x x1 x2]; omega) x3⟩, ⟨l3, u3, g3, h3.keep hs fun x x1 x2 x3 => hq x (by rw [g3 x x1 x2]; omega) x3⟩, ⟨l4, u4, g4, h4.keep hs fun x x1 x2 x3 => hq x (by rw [g4 x x1 x2]; omega) x3⟩, ⟨l5, u5, g5, h5.keep hs fun x x1 x2 x3 => hq x (by rw [g5 x x1 x2]; omega) x3⟩⟩
theorem OwnS.writes {w w' : World} {lo hi lo' hi' : Nat} {a0 a1 a2 a3 a4 a5 a6 : Option Addr} {t : Sto} (h : OwnS w lo hi a0 a1 a2 a3 a4 a5 a6 t) (hw : Writes lo' hi' w w') (hd : hi ≤ lo' ∨ hi' ≤ lo) : OwnS w' lo hi a0 a1 a2 a3 a4 a5 a6 t :=
  h.keep hw.size fun x x1 x2 x3 => hw.block x x3 (by omega)
theorem OwnS.below {w w' : World} {lo hi : Nat} {a0 a1 a2 a3 a4 a5 a6 : Option Addr} {t : Sto} (h : OwnS w lo hi a0 a1 a2 a3 a4 a5 a6 t) (hb : Below w.heap.size w w') : OwnS w' lo hi a0 a1 a2 a3 a4 a5 a6 t :=
  h.keep hb.size fun x x1 x2 x3 => hb.block x x3
theorem OwnS.wide {w : World} {lo hi lo' hi' : Nat} {a0 a1 a2 a3 a4 a5 a6 : Option Addr} {t : Sto} (h : OwnS w lo hi a0 a1 a2 a3 a4 a5 a6 t) (e1 : lo' ≤ lo) (e2 : hi ≤ hi') (e3 : hi' ≤ w.heap.size) : OwnS w lo' hi' a0 a1 a2 a3 a4 a5 a6 t := by
  obtain ⟨h0, col, hc, r⟩ := h
  exact ⟨e3, col, fun x hx => by have := hc x hx; omega, r⟩
/-- A store that is not great. -/
def FewS (t : Sto) : Prop := SmSt t ∧ sPg t.pT t.pn + tot t.d + t.g.n1 + t.g.n2 ≤ 1000000
/-- A store with marks from m on. -/
def mS (m : Int) (t : Sto) : Sto := ⟨t.nx, t.pn, mPg m t.pT, mD (m + sPg t.pT t.pn) t.d, mG (m + sPg t.pT t.pn + tot t.d) t.g, t.hn, mK (m + sPg t.pT t.pn + tot t.d + (t.g.n1 + t.g.n2 : Nat)), mK (m + sPg t.pT t.pn + tot t.d + (t.g.n1 + t.g.n2 : Nat) + 1), t.on, ik (m + sPg t.pT t.pn + tot t.d + (t.g.n1 + t.g.n2 : Nat) + t.hn * 2)⟩
def totS (t : Sto) : Nat := sPg t.pT t.pn + tot t.d + (t.g.n1 + t.g.n2) + t.hn * 2 + t.on
set_option maxHeartbeats 4000000 in
theorem markStore_any (t : Sto) (a0 : Option Addr) (c0 : Nat) (a1 : Option Addr) (c1 : Nat) (a2 : Option Addr) (c2 : Nat) (a3 : Option Addr) (c3 : Nat) (a4 : Option Addr) (c4 : Nat) (a5 : Option Addr) (c5 : Nat) (a6 : Option Addr) (c6 : Nat) (lo hi : Nat) (w : World) (hs : FewS t) (h : OwnS w lo hi a0 a1 a2 a3 a4 a5 a6 t) :
    Calls Try.prog 42 #[.agg #[.int .i64 t.nx, .slice a0 t.pn c0, .slice a1 t.d.n c1, .slice a2 t.d.m c2, .slice a3 t.g.n1 c3, .slice a4 t.g.n2 c4, .slice a5 t.hn c5, .slice a6 t.on c6], .int .i64 1] w fun e w' => e = .returned (.int .i64 (1 + totS t)) ∧ Writes lo hi w w' ∧ OwnS w' lo hi a0 a1 a2 a3 a4 a5 a6 (mS 1 t) := by
  have HS : Hid (FewS t) := hs
  have hf := hs.2
  have hhn := hs.1.2.2.2.1
  have hon := hs.1.2.2.2.2
  obtain ⟨h0, col, hc, h1, ⟨l2, u2, g2, h2⟩, ⟨l3, u3, g3, h3⟩, ⟨l4, u4, g4, h4⟩, ⟨l5, u5, g5, h5⟩⟩ := h
  have HC : Hid (∀ x, col x ≠ 0 → lo ≤ x ∧ x < hi) := hc
  have HT : Hid ((totS t : Int) = sPg t.pT t.pn + tot t.d + (t.g.n1 + t.g.n2 : Nat) + t.hn * 2 + t.on) := by simp [totS, Hid]
  have H1 : Hid (OwnPgP w (fun x => col x = 1) a0 t.pn t.pT) := h1
  have H2 : Hid (OwnD w l2 u2 a1 a2 t.d) := h2
  have H3 : Hid (OwnG w l3 u3 a3 a4 t.g) := h3
  have H4 : Hid (Own w l4 u4 a5 t.hn t.hK t.hV) := h4
  have H5 : Hid (OwnI w l5 u5 a6 t.on t.oF) := h5
  have HG : Hid ((∀ x, l2 ≤ x → x < u2 → col x = 2) ∧ (∀ x, l3 ≤ x → x < u3 → col x = 3) ∧ (∀ x, l4 ≤ x → x < u4 → col x = 4) ∧ ∀ x, l5 ≤ x → x < u5 → col x = 5) := ⟨g2, g3, g4, g5⟩
  have HZ : Hid (∀ k, k ≠ 0 → col w.heap.size ≠ k) := fun k hk e => by have := hc w.heap.size (by omega); omega
  clear hs h1 h2 h3 h4 h5 g2 g3 g4 g5 hc
  go_enter Try.func42, Try.ntmps42
  go_wp2_with fail
  refine (markPageS_P t.pn t.pT a0 c0 (fun x => col x = 1) 1 _ HS.out.1.1.1 HS.out.1.1.2.2 (by omega) (by omega) (H1.out.keep (below_new _ _).size fun x _ hl => (below_new _ _).block x hl)).mono ?_
  rintro e w1 ⟨rfl, hw, ho⟩
  have q2 : w1.cell? ⟨w.heap.size, 2, none⟩ = some (.slice a1 t.d.n c1) := by
    rw [World.cell?_of_block (w := w.alloc _) (a := ⟨w.heap.size, 2, none⟩) (hw.block w.heap.size (by simp) (HZ.out 1 (by omega)))]; simp [go_sem]
  have q3 : w1.cell? ⟨w.heap.size, 3, none⟩ = some (.slice a2 t.d.m c2) := by
    rw [World.cell?_of_block (w := w.alloc _) (a := ⟨w.heap.size, 3, none⟩) (hw.block w.heap.size (by simp) (HZ.out 1 (by omega)))]; simp [go_sem]
  have q4 : w1.cell? ⟨w.heap.size, 4, none⟩ = some (.slice a3 t.g.n1 c3) := by
    rw [World.cell?_of_block (w := w.alloc _) (a := ⟨w.heap.size, 4, none⟩) (hw.block w.heap.size (by simp) (HZ.out 1 (by omega)))]; simp [go_sem]
  have q5 : w1.cell? ⟨w.heap.size, 5, none⟩ = some (.slice a4 t.g.n2 c4) := by
    rw [World.cell?_of_block (w := w.alloc _) (a := ⟨w.heap.size, 5, none⟩) (hw.block w.heap.size (by simp) (HZ.out 1 (by omega)))]; simp [go_sem]
  have q6 : w1.cell? ⟨w.heap.size, 6, none⟩ = some (.slice a5 t.hn c5) := by
    rw [World.cell?_of_block (w := w.alloc _) (a := ⟨w.heap.size, 6, none⟩) (hw.block w.heap.size (by simp) (HZ.out 1 (by omega)))]; simp [go_sem]
  have q7 : w1.cell? ⟨w.heap.size, 7, none⟩ = some (.slice a6 t.on c6) := by
    rw [World.cell?_of_block (w := w.alloc _) (a := ⟨w.heap.size, 7, none⟩) (hw.block w.heap.size (by simp) (HZ.out 1 (by omega)))]; simp [go_sem]
  have HW1 : Hid (WritesP (fun x => col x = 1) w w1) := (WritesP.below (below_new _ _)).trans hw
  have hz1 : w.heap.size < w1.heap.size := by have := hw.size; simp at this; omega
  replace H1 : Hid (OwnPgP w1 (fun x => col x = 1) a0 t.pn (mPg 1 t.pT)) := ho
  replace H2 : Hid (OwnD w1 l2 u2 a1 a2 t.d) := H2.out.keep HW1.out.size fun x x1 x2 x3 => HW1.out.block x x3 (by show ¬ col x = 1; rw [HG.out.1 x x1 x2]; omega)
  replace H3 : Hid (OwnG w1 l3 u3 a3 a4 t.g) := H3.out.keep HW1.out.size fun x x1 x2 x3 => HW1.out.block x x3 (by show ¬ col x = 1; rw [HG.out.2.1 x x1 x2]; omega)
  replace H4 : Hid (Own w1 l4 u4 a5 t.hn t.hK t.hV) := H4.out.keep HW1.out.size fun x x1 x2 x3 => HW1.out.block x x3 (by show ¬ col x = 1; rw [HG.out.2.2.1 x x1 x2]; omega)
  replace H5 : Hid (OwnI w1 l5 u5 a6 t.on t.oF) := H5.out.keep HW1.out.size fun x x1 x2 x3 => HW1.out.block x x3 (by show ¬ col x = 1; rw [HG.out.2.2.2 x x1 x2]; omega)
  have HWW : Hid (Writes lo hi w w1) := HW1.out.to fun x hx => HC.out x (by rw [hx]; omega)
  clear hw ho HW1
  go_wp2_with fail
  refine (markDisk_any t.d a1 a2 c1 c2 l2 u2 (1 + sPg t.pT t.pn) _ HS.out.1.2.1 (by omega) (by omega) H2.out).mono ?_
  rintro e w2 ⟨rfl, hw, ho⟩
  have HWP : Hid (WritesP (fun x => col x = 2) w1 w2) := WritesP.of hw HG.out.1
  have hz2 : w.heap.size < w2.heap.size := by have := hw.size; omega
  replace q4 : w2.cell? ⟨w.heap.size, 4, none⟩ = some (.slice a3 t.g.n1 c3) := (World.cell?_of_block (w := w1) (a := ⟨w.heap.size, 4, none⟩) (HWP.out.block w.heap.size hz1 (HZ.out 2 (by omega)))).trans q4
  replace q5 : w2.cell? ⟨w.heap.size, 5, none⟩ = some (.slice a4 t.g.n2 c4) := (World.cell?_of_block (w := w1) (a := ⟨w.heap.size, 5, none⟩) (HWP.out.block w.heap.size hz1 (HZ.out 2 (by omega)))).trans q5
  replace q6 : w2.cell? ⟨w.heap.size, 6, none⟩ = some (.slice a5 t.hn c5) := (World.cell?_of_block (w := w1) (a := ⟨w.heap.size, 6, none⟩) (HWP.out.block w.heap.size hz1 (HZ.out 2 (by omega)))).trans q6
  replace q7 : w2.cell? ⟨w.heap.size, 7, none⟩ = some (.slice a6 t.on c6) := (World.cell?_of_block (w := w1) (a := ⟨w.heap.size, 7, none⟩) (HWP.out.block w.heap.size hz1 (HZ.out 2 (by omega)))).trans q7
  replace H1 : Hid (OwnPgP w2 (fun x => col x = 1) a0 t.pn (mPg 1 t.pT)) := H1.out.keep HWP.out.size fun x hx hl => HWP.out.block x hl (by show ¬ col x = 2; rw [hx]; omega)
  replace H2 : Hid (OwnD w2 l2 u2 a1 a2 (mD (1 + sPg t.pT t.pn) t.d)) := ho
  replace H3 : Hid (OwnG w2 l3 u3 a3 a4 t.g) := H3.out.keep HWP.out.size fun x x1 x2 x3 => HWP.out.block x x3 (by show ¬ col x = 2; rw [HG.out.2.1 x x1 x2]; omega)
  replace H4 : Hid (Own w2 l4 u4 a5 t.hn t.hK t.hV) := H4.out.keep HWP.out.size fun x x1 x2 x3 => HWP.out.block x x3 (by show ¬ col x = 2; rw [HG.out.2.2.1 x x1 x2]; omega)
  replace H5 : Hid (OwnI w2 l5 u5 a6 t.on t.oF) := H5.out.keep HWP.out.size fun x x1 x2 x3 => HWP.out.block x x3 (by show ¬ col x = 2; rw [HG.out.2.2.2 x x1 x2]; omega)
  replace HWW : Hid (Writes lo hi w w2) := HWW.out.trans (HWP.out.to fun x hx => HC.out x (by rw [hx]; omega))
  clear hw ho HWP
  go_wp2_with fail
  refine (markLog_any t.g a3 a4 c3 c4 l3 u3 (1 + sPg t.pT t.pn + tot t.d) _ HS.out.1.2.2.1.1 HS.out.1.2.2.1.2 (by omega) (by omega) H3.out).mono ?_
  rintro e w3 ⟨rfl, hw, ho⟩
  have HWP : Hid (WritesP (fun x => col x = 3) w2 w3) := WritesP.of hw HG.out.2.1
  have hz3 : w.heap.size < w3.heap.size := by have := hw.size; omega
  replace q6 : w3.cell? ⟨w.heap.size, 6, none⟩ = some (.slice a5 t.hn c5) := (World.cell?_of_block (w := w2) (a := ⟨w.heap.size, 6, none⟩) (HWP.out.block w.heap.size hz2 (HZ.out 3 (by omega)))).trans q6
  replace q7 : w3.cell? ⟨w.heap.size, 7, none⟩ = some (.slice a6 t.on c6) := (World.cell?_of_block (w := w2) (a := ⟨w.heap.size, 7, none⟩) (HWP.out.block w.heap.size hz2 (HZ.out 3 (by omega)))).trans q7
  replace H1 : Hid (OwnPgP w3 (fun x => col x = 1) a0 t.pn (mPg 1 t.pT)) := H1.out.keep HWP.out.size fun x hx hl => HWP.out.block x hl (by show ¬ col x = 3; rw [hx]; omega)
  replace H2 : Hid (OwnD w3 l2 u2 a1 a2 (mD (1 + sPg t.pT t.pn) t.d)) := H2.out.keep HWP.out.size fun x x1 x2 x3 => HWP.out.block x x3 (by show ¬ col x = 3; rw [HG.out.1 x x1 x2]; omega)
  replace H3 : Hid (OwnG w3 l3 u3 a3 a4 (mG (1 + sPg t.pT t.pn + tot t.d) t.g)) := ho
  replace H4 : Hid (Own w3 l4 u4 a5 t.hn t.hK t.hV) := H4.out.keep HWP.out.size fun x x1 x2 x3 => HWP.out.block x x3 (by show ¬ col x = 3; rw [HG.out.2.2.1 x x1 x2]; omega)
  replace H5 : Hid (OwnI w3 l5 u5 a6 t.on t.oF) := H5.out.keep HWP.out.size fun x x1 x2 x3 => HWP.out.block x x3 (by show ¬ col x = 3; rw [HG.out.2.2.2 x x1 x2]; omega)
  replace HWW : Hid (Writes lo hi w w3) := HWW.out.trans (HWP.out.to fun x hx => HC.out x (by rw [hx]; omega))
  clear hw ho HWP
  go_wp2_with fail
  refine (markHeldS_any t.hn t.hK t.hV a5 c5 l4 u4 (1 + sPg t.pT t.pn + tot t.d + (t.g.n1 + t.g.n2 : Nat)) _ (by omega) (by omega) (by omega) H4.out).mono ?_
  rintro e w4 ⟨rfl, hw, ho⟩
  have HWP : Hid (WritesP (fun x => col x = 4) w3 w4) := WritesP.of hw HG.out.2.2.1
  have hz4 : w.heap.size < w4.heap.size := by have := hw.size; omega
  replace q7 : w4.cell? ⟨w.heap.size, 7, none⟩ = some (.slice a6 t.on c6) := (World.cell?_of_block (w := w3) (a := ⟨w.heap.size, 7, none⟩) (HWP.out.block w.heap.size hz3 (HZ.out 4 (by omega)))).trans q7
  replace H1 : Hid (OwnPgP w4 (fun x => col x = 1) a0 t.pn (mPg 1 t.pT)) := H1.out.keep HWP.out.size fun x hx hl => HWP.out.block x hl (by show ¬ col x = 4; rw [hx]; omega)
  replace H2 : Hid (OwnD w4 l2 u2 a1 a2 (mD (1 + sPg t.pT t.pn) t.d)) := H2.out.keep HWP.out.size fun x x1 x2 x3 => HWP.out.block x x3 (by show ¬ col x = 4; rw [HG.out.1 x x1 x2]; omega)
  replace H3 : Hid (OwnG w4 l3 u3 a3 a4 (mG (1 + sPg t.pT t.pn + tot t.d) t.g)) := H3.out.keep HWP.out.size fun x x1 x2 x3 => HWP.out.block x x3 (by show ¬ col x = 4; rw [HG.out.2.1 x x1 x2]; omega)
  replace H4 : Hid (Own w4 l4 u4 a5 t.hn (mK (1 + sPg t.pT t.pn + tot t.d + (t.g.n1 + t.g.n2 : Nat))) (mK (1 + sPg t.pT t.pn + tot t.d + (t.g.n1 + t.g.n2 : Nat) + 1))) := ho
  replace H5 : Hid (OwnI w4 l5 u5 a6 t.on t.oF) := H5.out.keep HWP.out.size fun x x1 x2 x3 => HWP.out.block x x3 (by show ¬ col x = 4; rw [HG.out.2.2.2 x x1 x2]; omega)
  replace HWW : Hid (Writes lo hi w w4) := HWW.out.trans (HWP.out.to fun x hx => HC.out x (by rw [hx]; omega))
  clear hw ho HWP
  go_wp2_with fail
  refine (markInt64S_any t.on t.oF a6 c6 l5 u5 (1 + sPg t.pT t.pn + tot t.d + (t.g.n1 + t.g.n2 : Nat) + t.hn * 2) _ (by omega) (by omega) (by omega) H5.out).mono ?_
  rintro e w5 ⟨rfl, hw, ho⟩
  have HWP : Hid (WritesP (fun x => col x = 5) w4 w5) := WritesP.of hw HG.out.2.2.2
  have hz5 : w.heap.size < w5.heap.size := by have := hw.size; omega
  replace H1 : Hid (OwnPgP w5 (fun x => col x = 1) a0 t.pn (mPg 1 t.pT)) := H1.out.keep HWP.out.size fun x hx hl => HWP.out.block x hl (by show ¬ col x = 5; rw [hx]; omega)
  replace H2 : Hid (OwnD w5 l2 u2 a1 a2 (mD (1 + sPg t.pT t.pn) t.d)) := H2.out.keep HWP.out.size fun x x1 x2 x3 => HWP.out.block x x3 (by show ¬ col x = 5; rw [HG.out.1 x x1 x2]; omega)
  replace H3 : Hid (OwnG w5 l3 u3 a3 a4 (mG (1 + sPg t.pT t.pn + tot t.d) t.g)) := H3.out.keep HWP.out.size fun x x1 x2 x3 => HWP.out.block x x3 (by show ¬ col x = 5; rw [HG.out.2.1 x x1 x2]; omega)
  replace H4 : Hid (Own w5 l4 u4 a5 t.hn (mK (1 + sPg t.pT t.pn + tot t.d + (t.g.n1 + t.g.n2 : Nat))) (mK (1 + sPg t.pT t.pn + tot t.d + (t.g.n1 + t.g.n2 : Nat) + 1))) := H4.out.keep HWP.out.size fun x x1 x2 x3 => HWP.out.block x x3 (by show ¬ col x = 5; rw [HG.out.2.2.1 x x1 x2]; omega)
  replace H5 : Hid (OwnI w5 l5 u5 a6 t.on (ik (1 + sPg t.pT t.pn + tot t.d + (t.g.n1 + t.g.n2 : Nat) + t.hn * 2))) := ho
  replace HWW : Hid (Writes lo hi w w5) := HWW.out.trans (HWP.out.to fun x hx => HC.out x (by rw [hx]; omega))
  clear hw ho HWP
  go_wp2_with fail
  go_ret
  refine ⟨ret_int (by rw [HT.out]; omega), HWW.out, ?_⟩
  exact ⟨by have := HWW.out.size; omega, col, HC.out, H1.out, ⟨l2, u2, HG.out.1, H2.out⟩, ⟨l3, u3, HG.out.2.1, H3.out⟩, ⟨l4, u4, HG.out.2.2.1, H4.out⟩, ⟨l5, u5, HG.out.2.2.2, H5.out⟩⟩
set_option maxHeartbeats 4000000 in
theorem heldStore_any (t : Sto) (a0 : Option Addr) (c0 : Nat) (a1 : Option Addr) (c1 : Nat) (a2 : Option Addr) (c2 : Nat) (a3 : Option Addr) (c3 : Nat) (a4 : Option Addr) (c4 : Nat) (a5 : Option Addr) (c5 : Nat) (a6 : Option Addr) (c6 : Nat) (w : World) (hs : FewS t) (h : InSt w a0 a1 a2 a3 a4 a5 a6 (mS 1 t)) :
    Calls Try.prog 43 #[.agg #[.int .i64 t.nx, .slice a0 t.pn c0, .slice a1 t.d.n c1, .slice a2 t.d.m c2, .slice a3 t.g.n1 c3, .slice a4 t.g.n2 c4, .slice a5 t.hn c5, .slice a6 t.on c6], .int .i64 1] w fun e w' => e = .returned (.int .i64 (1 + totS t)) ∧ Below w.heap.size w w' := by
  have HS : Hid (FewS t) := hs
  have hf := hs.2
  have hhn := hs.1.2.2.2.1
  have hon := hs.1.2.2.2.2
  have HT : Hid ((totS t : Int) = sPg t.pT t.pn + tot t.d + (t.g.n1 + t.g.n2 : Nat) + t.hn * 2 + t.on) := by simp [totS, Hid]
  have HA : Hid (PgsAt w a0 t.pn (mPg 1 t.pT) ∧ DiskAt w a1 a2 (mD (1 + sPg t.pT t.pn) t.d) ∧ LogAt w a3 a4 (mG (1 + sPg t.pT t.pn + tot t.d) t.g) ∧ CellsAt w a5 t.hn (mK (1 + sPg t.pT t.pn + tot t.d + (t.g.n1 + t.g.n2 : Nat))) (mK (1 + sPg t.pT t.pn + tot t.d + (t.g.n1 + t.g.n2 : Nat) + 1)) ∧ IntsAt w a6 t.on (ik (1 + sPg t.pT t.pn + tot t.d + (t.g.n1 + t.g.n2 : Nat) + t.hn * 2))) := h
  clear hs h
  go_enter Try.func43, Try.ntmps43
  go_wp2_with fail
  refine (heldPageS_any t.pn t.pT a0 c0 1 _ HS.out.1.1.1 HS.out.1.1.2.2 (by omega) (by omega) (HA.out.1.below (below_new _ _))).mono ?_
  rintro e w1 ⟨rfl, hw⟩
  have HB : Hid (Below w.heap.size w w1) := by rw [hw]; exact below_new _ _
  have q2 : w1.cell? ⟨w.heap.size, 2, none⟩ = some (.slice a1 t.d.n c1) := by rw [hw]; simp [go_sem]
  have q3 : w1.cell? ⟨w.heap.size, 3, none⟩ = some (.slice a2 t.d.m c2) := by rw [hw]; simp [go_sem]
  have q4 : w1.cell? ⟨w.heap.size, 4, none⟩ = some (.slice a3 t.g.n1 c3) := by rw [hw]; simp [go_sem]
  have q5 : w1.cell? ⟨w.heap.size, 5, none⟩ = some (.slice a4 t.g.n2 c4) := by rw [hw]; simp [go_sem]
  have q6 : w1.cell? ⟨w.heap.size, 6, none⟩ = some (.slice a5 t.hn c5) := by rw [hw]; simp [go_sem]
  have q7 : w1.cell? ⟨w.heap.size, 7, none⟩ = some (.slice a6 t.on c6) := by rw [hw]; simp [go_sem]
  clear hw
  have hn0 : ¬ ((1 : Int) + sPg t.pT t.pn < 0) := by omega
  go_wp2_with fail
  refine (heldDisk_any t.d a1 a2 c1 c2 (1 + sPg t.pT t.pn) _ HS.out.1.2.1 (by omega) (by omega) (HA.out.2.1.below HB.out)).mono ?_
  rintro e w2 ⟨rfl, hb⟩
  replace HB : Hid (Below w.heap.size w w2) := below_then HB.out hb
  replace q4 := cell_below q4 hb
  replace q5 := cell_below q5 hb
  replace q6 := cell_below q6 hb
  replace q7 := cell_below q7 hb
  clear hb
  have hn2 : ¬ ((1 + sPg t.pT t.pn + tot t.d : Int) < 0) := by omega
  go_wp2_with fail
  refine (heldLog_any t.g a3 a4 c3 c4 (1 + sPg t.pT t.pn + tot t.d) _ HS.out.1.2.2.1.1 HS.out.1.2.2.1.2 (by omega) (by omega) (HA.out.2.2.1.below HB.out)).mono ?_
  rintro e w3 ⟨rfl, hb⟩
  replace HB : Hid (Below w.heap.size w w3) := below_then HB.out hb
  replace q6 := cell_below q6 hb
  replace q7 := cell_below q7 hb
  clear hb
  have hn3 : ¬ ((1 + sPg t.pT t.pn + tot t.d + (t.g.n1 + t.g.n2 : Nat) : Int) < 0) := by omega
  go_wp2_with fail
  refine (heldHeldS_any t.hn a5 c5 (1 + sPg t.pT t.pn + tot t.d + (t.g.n1 + t.g.n2 : Nat)) _ (by omega) (by omega) (by omega) (HA.out.2.2.2.1.below HB.out)).mono ?_
  rintro e w4 ⟨rfl, hq⟩
  have hb : Below w3.heap.size w3 w4 := by rw [hq]; exact Below.refl _ _
  replace HB : Hid (Below w.heap.size w w4) := below_then HB.out hb
  replace q7 := cell_below q7 hb
  clear hb hq
  have hn4 : ¬ ((1 + sPg t.pT t.pn + tot t.d + (t.g.n1 + t.g.n2 : Nat) + t.hn * 2 : Int) < 0) := by omega
  go_wp2_with fail
  refine (heldInt64S_any t.on a6 c6 (1 + sPg t.pT t.pn + tot t.d + (t.g.n1 + t.g.n2 : Nat) + t.hn * 2) _ (by omega) (by omega) (by omega) (HA.out.2.2.2.2.below HB.out)).mono ?_
  rintro e w5 ⟨rfl, hq⟩
  have hb : Below w4.heap.size w4 w5 := by rw [hq]; exact Below.refl _ _
  replace HB : Hid (Below w.heap.size w w5) := below_then HB.out hb
  clear hb hq
  have hn5 : ¬ ((1 + sPg t.pT t.pn + tot t.d + (t.g.n1 + t.g.n2 : Nat) + t.hn * 2 + t.on : Int) < 0) := by omega
  go_wp2_with fail
  go_ret
  exact ⟨ret_int (by rw [HT.out]; omega), HB.out⟩
theorem markStoreResult_any (c v : Int) (t : Sto) (a0 : Option Addr) (c0 : Nat) (a1 : Option Addr) (c1 : Nat) (a2 : Option Addr) (c2 : Nat) (a3 : Option Addr) (c3 : Nat) (a4 : Option Addr) (c4 : Nat) (a5 : Option Addr) (c5 : Nat) (a6 : Option Addr) (c6 : Nat) (lo hi : Nat) (w : World) (hs : FewS t) (h : OwnS w lo hi a0 a1 a2 a3 a4 a5 a6 t) :
    Calls Try.prog 13 #[.agg #[.int .i64 c, .int .i64 v, .int .i64 t.nx, .slice a0 t.pn c0, .slice a1 t.d.n c1, .slice a2 t.d.m c2, .slice a3 t.g.n1 c3, .slice a4 t.g.n2 c4, .slice a5 t.hn c5, .slice a6 t.on c6], .int .i64 1] w fun e w' => e = .returned (.int .i64 (1 + totS t)) ∧ Writes lo hi w w' ∧ OwnS w' lo hi a0 a1 a2 a3 a4 a5 a6 (mS 1 t) := by
  have HS : Hid (FewS t) := hs
  have HO : Hid (OwnS w lo hi a0 a1 a2 a3 a4 a5 a6 t) := h
  clear hs h
  go_enter Try.func13, Try.ntmps13
  go_wp2_with fail
  refine (markStore_any t a0 c0 a1 c1 a2 c2 a3 c3 a4 c4 a5 c5 a6 c6 lo hi _ HS.out (HO.out.below (below_new _ _))).mono ?_
  rintro e w1 ⟨rfl, hw, ho⟩
  go_wp2_with fail
  go_ret
  exact ⟨rfl, (Writes.of_below (below_new _ _)).trans hw, ho⟩
theorem heldStoreResult_any (c v : Int) (t : Sto) (a0 : Option Addr) (c0 : Nat) (a1 : Option Addr) (c1 : Nat) (a2 : Option Addr) (c2 : Nat) (a3 : Option Addr) (c3 : Nat) (a4 : Option Addr) (c4 : Nat) (a5 : Option Addr) (c5 : Nat) (a6 : Option Addr) (c6 : Nat) (w : World) (hs : FewS t) (h : InSt w a0 a1 a2 a3 a4 a5 a6 (mS 1 t)) :
    Calls Try.prog 14 #[.agg #[.int .i64 c, .int .i64 v, .int .i64 t.nx, .slice a0 t.pn c0, .slice a1 t.d.n c1, .slice a2 t.d.m c2, .slice a3 t.g.n1 c3, .slice a4 t.g.n2 c4, .slice a5 t.hn c5, .slice a6 t.on c6], .int .i64 1] w fun e w' => e = .returned (.int .i64 (1 + totS t)) ∧ Below w.heap.size w w' := by
  have HS : Hid (FewS t) := hs
  have HA : Hid (InSt w a0 a1 a2 a3 a4 a5 a6 (mS 1 t)) := h
  have hng : ¬ ((1 : Int) + totS t < 0) := by omega
  clear hs h
  go_enter Try.func14, Try.ntmps14
  go_wp2_with fail
  refine (heldStore_any t a0 c0 a1 c1 a2 c2 a3 c3 a4 c4 a5 c5 a6 c6 _ HS.out (HA.out.below (below_new _ _))).mono ?_
  rintro e w1 ⟨rfl, hb⟩
  go_wp2_with fail
  go_ret
  exact ⟨rfl, below_then (below_new _ _) hb⟩
theorem eqStoreResult_same (c v : Int) (t : Sto) (a0 : Option Addr) (c0 : Nat) (a1 : Option Addr) (c1 : Nat) (a2 : Option Addr) (c2 : Nat) (a3 : Option Addr) (c3 : Nat) (a4 : Option Addr) (c4 : Nat) (a5 : Option Addr) (c5 : Nat) (a6 : Option Addr) (c6 : Nat) (d0 : Option Addr) (e0 : Nat) (d1 : Option Addr) (e1 : Nat) (d2 : Option Addr) (e2 : Nat) (d3 : Option Addr) (e3 : Nat) (d4 : Option Addr) (e4 : Nat) (d5 : Option Addr) (e5 : Nat) (d6 : Option Addr) (e6 : Nat) (w : World) (hS : SmSt t) (h : InSt w a0 a1 a2 a3 a4 a5 a6 t) (h' : InSt w d0 d1 d2 d3 d4 d5 d6 t) :
    Calls Try.prog 12 #[.agg #[.int .i64 c, .int .i64 v, .int .i64 t.nx, .slice a0 t.pn c0, .slice a1 t.d.n c1, .slice a2 t.d.m c2, .slice a3 t.g.n1 c3, .slice a4 t.g.n2 c4, .slice a5 t.hn c5, .slice a6 t.on c6], .agg #[.int .i64 c, .int .i64 v, .int .i64 t.nx, .slice d0 t.pn e0, .slice d1 t.d.n e1, .slice d2 t.d.m e2, .slice d3 t.g.n1 e3, .slice d4 t.g.n2 e4, .slice d5 t.hn e5, .slice d6 t.on e6]] w fun e w' => e = .returned (.bool true) ∧ Below w.heap.size w w' := by
  have HS : Hid (SmSt t) := hS
  have HA : Hid (InSt w a0 a1 a2 a3 a4 a5 a6 t) := h
  have HD : Hid (InSt w d0 d1 d2 d3 d4 d5 d6 t) := h'
  have hne0 : (c != c) = false := by simp
  have hne1 : (v != v) = false := by simp
  have hb0 : ∀ o1 o2, Below w.heap.size w ((w.alloc o1).alloc o2) := fun o1 o2 => (((Below.refl _ _).alloc (Nat.le_refl _) _).alloc (by simp) _)
  clear hS h h'
  go_enter Try.func12, Try.ntmps12
  go_wp2_with fail
  refine (eqStore_same t a0 c0 a1 c1 a2 c2 a3 c3 a4 c4 a5 c5 a6 c6 d0 e0 d1 e1 d2 e2 d3 e3 d4 e4 d5 e5 d6 e6 _ HS.out (HA.out.below (hb0 _ _)) (HD.out.below (hb0 _ _))).mono ?_
  rintro e w1 ⟨rfl, hb⟩
  go_wp2_with fail
  go_ret
  exact ⟨rfl, below_then (hb0 _ _) hb⟩
/-- An answer that is a store in blocks of its own. -/
def SRes (c v : Int) (t : Sto) (w : World) (e : Ending) (w' : World) : Prop :=
  ∃ a0 c0 a1 c1 a2 c2 a3 c3 a4 c4 a5 c5 a6 c6, e = .returned (.agg #[.int .i64 c, .int .i64 v, .int .i64 t.nx, .slice a0 t.pn c0, .slice a1 t.d.n c1, .slice a2 t.d.m c2, .slice a3 t.g.n1 c3, .slice a4 t.g.n2 c4, .slice a5 t.hn c5, .slice a6 t.on c6]) ∧ Below w.heap.size w w' ∧ OwnS w' w.heap.size w'.heap.size a0 a1 a2 a3 a4 a5 a6 t
/-- No store. -/
def zSt : Sto := ⟨0, 0, fun _ => zPg, ⟨0, fun _ => 0, fun _ _ => 0, 0, fun _ => 0, fun _ => 0, fun _ => 0, fun _ _ => 0⟩, ⟨0, fun _ => 0, 0, fun _ => 0⟩, 0, fun _ => 0, fun _ => 0, 0, fun _ => 0⟩
theorem zSt_few : FewS zSt := ⟨⟨⟨Nat.zero_le _, fun i hi => absurd hi (Nat.not_lt_zero _), Nat.zero_le _⟩, ⟨Nat.zero_le _, Nat.zero_le _, fun i hi => absurd hi (Nat.not_lt_zero _), fun i hi => absurd hi (Nat.not_lt_zero _), Nat.zero_le _, Nat.zero_le _⟩, ⟨Nat.zero_le _, Nat.zero_le _⟩, Nat.zero_le _, Nat.zero_le _⟩, by simp [zSt, sPg, smf9, tot, sumL, s2]⟩
theorem zSt_own (w : World) (lo : Nat) : OwnS w lo w.heap.size none none none none none none none zSt :=
  ⟨Nat.le_refl _, fun _ => 0, fun x hx => absurd rfl hx, .inl rfl, ⟨0, 0, fun x _ h => absurd h (Nat.not_lt_zero _), Nat.zero_le _, 0, 0, 0, 0, Nat.le_refl _, Nat.le_refl _, Nat.le_refl _, Nat.le_refl _, .inl (Nat.le_refl _), ⟨Nat.zero_le _, .inl rfl⟩, ⟨Nat.zero_le _, .inl rfl⟩⟩, ⟨0, 0, fun x _ h => absurd h (Nat.not_lt_zero _), Nat.zero_le _, 0, 0, 0, 0, Nat.le_refl _, Nat.le_refl _, Nat.le_refl _, Nat.le_refl _, .inl (Nat.le_refl _), ⟨Nat.zero_le _, .inl rfl⟩, ⟨Nat.zero_le _, .inl rfl⟩⟩, ⟨0, 0, fun x _ h => absurd h (Nat.not_lt_zero _), Nat.zero_le _, .inl rfl⟩, ⟨0, 0, fun x _ h => absurd h (Nat.not_lt_zero _), Nat.zero_le _, .inl rfl⟩⟩
theorem sres_bad {c : Int} {w w' : World} (hb : Below w.heap.size w w') : SRes c 0 zSt w (.returned (.agg #[.int .i64 c, .int .i64 0, .int .i64 0, .slice none 0 0, .slice none 0 0, .slice none 0 0, .slice none 0 0, .slice none 0 0, .slice none 0 0, .slice none 0 0])) w' :=
  ⟨none, 0, none, 0, none, 0, none, 0, none, 0, none, 0, none, 0, rfl, hb, zSt_own _ _⟩
end Go.Proofs.Ytjggplfhkejbbaa
