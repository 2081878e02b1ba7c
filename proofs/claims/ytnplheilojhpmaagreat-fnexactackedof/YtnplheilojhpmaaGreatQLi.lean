/- Logs in the laws: how great, copied, equal, marked; an argument of type laws.Log, opened. -/
import Derived.Test.YtnplheilojhpmaaGreatQRg
import Derived.Test.YtnplheilojhpmaaGreatQDopen
namespace Go.Proofs.YtnplheilojhpmaaGreat
open Go.ChangeShapes Go.WideShapes Go.ChangeAt Go.RowKit Go.Deep Go.Joins
set_option linter.unusedVariables false
set_option maxRecDepth 20000

/-- A log in blocks of its own. -/
def OwnG (w : World) (lo hi : Nat) (a1 a2 : Option Addr) (L : Lo) : Prop := hi ≤ w.heap.size ∧ ∃ l1 h1 l2 h2, lo ≤ l1 ∧ h1 ≤ hi ∧ lo ≤ l2 ∧ h2 ≤ hi ∧ (h1 ≤ l2 ∨ h2 ≤ l1) ∧ OwnB w l1 h1 a1 L.n1 L.z1 ∧ OwnB w l2 h2 a2 L.n2 L.z2
theorem OwnG.at {w : World} {lo hi : Nat} {a1 a2 : Option Addr} {L : Lo} (h : OwnG w lo hi a1 a2 L) : LogAt w a1 a2 L := by
  obtain ⟨_, l1, h1, l2, h2, _, _, _, _, _, hp, hl⟩ := h
  exact ⟨hp.at, hl.at⟩
theorem OwnG.writes {w w' : World} {lo hi lo' hi' : Nat} {a1 a2 : Option Addr} {L : Lo} (h : OwnG w lo hi a1 a2 L) (hw : Writes lo' hi' w w') (hd : hi ≤ lo' ∨ hi' ≤ lo) : OwnG w' lo hi a1 a2 L := by
  obtain ⟨h0, l1, h1, l2, h2, k1, k2, k3, k4, k5, hp, hl⟩ := h
  exact ⟨Nat.le_trans h0 hw.size, l1, h1, l2, h2, k1, k2, k3, k4, k5, hp.writes hw (by omega), hl.writes hw (by omega)⟩
theorem OwnG.below {w w' : World} {lo hi : Nat} {a1 a2 : Option Addr} {L : Lo} (h : OwnG w lo hi a1 a2 L) (hb : Below w.heap.size w w') : OwnG w' lo hi a1 a2 L :=
  h.writes (Writes.of_below (lo := hi) (hi := hi) hb) (.inl (Nat.le_refl _))
theorem ownB_rowIs {w : World} {b n lo : Nat} {z : Nat → Int} (h : w.rowIs b 5 n (fun i => .int .u8 (z i))) (hl : lo ≤ b) : OwnB w lo w.heap.size (some ⟨b, 0, none⟩) n z := by
  have r := Row1.of_row h
  exact ⟨Nat.le_refl _, .inr ⟨b, 0, rfl, hl, h.lt, r.1, r.2⟩⟩
set_option maxHeartbeats 800000 in
theorem toLog_any (L : Lo) (a1 a2 : Option Addr) (c1 c2 : Nat) (w : World) (hn1 : L.n1 ≤ 1048576) (hn2 : L.n2 ≤ 1048576) (h : LogAt w a1 a2 L) :
    Calls Tryz.prog 23 #[.agg #[.slice a1 L.n1 c1, .slice a2 L.n2 c2]] w fun e w' =>
      ∃ b b', e = .returned (.agg #[.slice (some ⟨b, 0, none⟩) L.n1 L.n1, .slice (some ⟨b', 0, none⟩) L.n2 L.n2]) ∧ Below w.heap.size w w' ∧ OwnG w' w.heap.size w'.heap.size (some ⟨b, 0, none⟩) (some ⟨b', 0, none⟩) L := by
  obtain ⟨n, z, m, y⟩ := L
  obtain ⟨h1, h2⟩ := h
  dsimp only at *
  have HA : Hid (BytesAt w a1 n z) := h1
  have HA' : Hid (BytesAt w a2 m y) := h2
  clear h1 h2
  go_enter Tryz.func23, Tryz.ntmps23
  go_wp2_with fail
  have hb0 : ∀ o1 o2 o3, Below w.heap.size w (((w.alloc o1).alloc o2).alloc o3) := fun o1 o2 o3 => (((Below.refl _ _).alloc (Nat.le_refl _) _).alloc (by simp) _).alloc (by simp; omega) _
  have e3 : ∀ o1 o2 o3 : Obj, (((w.alloc o1).alloc o2).alloc o3).heap.size = w.heap.size + 3 := fun _ _ _ => by simp
  refine (toByteS_any n z a1 c1 _ (by omega) (HA.out.below (hb0 _ _ _))).mono ?_
  rintro e w1 ⟨rfl, hb1, ho1⟩
  obtain ⟨hc, hf⟩ := bcell hb1
  have hz : w.heap.size + 2 < w1.heap.size := by have := hb1.size; rw [e3] at this; omega
  have q0 : w1.cell? ⟨w.heap.size, 0, none⟩ = some (.slice a1 n c1) := by rw [hc _ _ (by simp <;> omega)]; simp [go_sem]
  have q1 : w1.cell? ⟨w.heap.size, 1, none⟩ = some (.slice a2 m c2) := by rw [hc _ _ (by simp <;> omega)]; simp [go_sem]
  have r0 : w1.cell? ⟨w.heap.size + 1, 0, none⟩ = some (.slice none 0 0) := by rw [hc _ _ (by simp <;> omega)]; simp [go_sem]
  have r1 : w1.cell? ⟨w.heap.size + 1, 1, none⟩ = some (.slice none 0 0) := by rw [hc _ _ (by simp <;> omega)]; simp [go_sem]
  have s0 : w1.cell? ⟨w.heap.size + 2, 0, none⟩ = some (.slice none 0 0) := by rw [hc _ _ (by simp <;> omega)]; simp [go_sem]
  have s1 : w1.cell? ⟨w.heap.size + 2, 1, none⟩ = some (.slice none 0 0) := by rw [hc _ _ (by simp <;> omega)]; simp [go_sem]
  have f1 : ∀ i, w1.frozen? ⟨w.heap.size + 1, i, none⟩ = false := fun i => by rw [hf _ _ (by simp <;> omega)]; simp [go_sem]
  have f2 : ∀ i, w1.frozen? ⟨w.heap.size + 2, i, none⟩ = false := fun i => by rw [hf _ _ (by simp <;> omega)]; simp [go_sem]
  have HB : Hid (Below w.heap.size w w1) := below_then (hb0 _ _ _) hb1
  rw [e3] at ho1
  have HO : Hid (OwnB w1 (w.heap.size + 3) w1.heap.size (some ⟨w.heap.size + 3, 0, none⟩) n z) := ownB_rowIs ho1 (Nat.le_refl _)
  clear hc hf hb1 ho1 hb0 e3
  go_wp2_with fail
  have HB' : Hid (Below w.heap.size w (w1.setCell ⟨w.heap.size + 1 + 1, 0, none⟩ (.slice (some ⟨w.heap.size + 1 + 1 + 1, 0, none⟩) n n))) := HB.out.setCell (by simp <;> omega) _
  refine (toByteS_any m y a2 c2 _ (by omega) (HA'.out.below HB'.out)).mono ?_
  rintro e w2 ⟨rfl, hb2, ho2⟩
  obtain ⟨hc, hf⟩ := bcell hb2
  have es : (w1.setCell ⟨w.heap.size + 1 + 1, 0, none⟩ (.slice (some ⟨w.heap.size + 1 + 1 + 1, 0, none⟩) n n)).heap.size = w1.heap.size := by simp [World.setCell]
  rw [es] at hc hf ho2
  have t0 : w2.cell? ⟨w.heap.size + 1, 0, none⟩ = some (.slice none 0 0) := by rw [hc _ _ (by omega)]; rw [World.cell?_setCell_other _ _ _ _ (by simp), r0]
  have t1 : w2.cell? ⟨w.heap.size + 1, 1, none⟩ = some (.slice none 0 0) := by rw [hc _ _ (by omega)]; rw [World.cell?_setCell_other _ _ _ _ (by simp), r1]
  have u0 : w2.cell? ⟨w.heap.size + 1 + 1, 0, none⟩ = some (.slice (some ⟨w.heap.size + 1 + 1 + 1, 0, none⟩) n n) := by rw [hc _ _ (by omega)]; exact setS s0
  have u1 : w2.cell? ⟨w.heap.size + 1 + 1, 1, none⟩ = some (.slice none 0 0) := by rw [hc _ _ (by omega)]; rw [setO (by omega), s1]
  have k1 : ∀ i, w2.frozen? ⟨w.heap.size + 1, i, none⟩ = false := fun i => by rw [hf _ _ (by omega), World.frozen?_setCell]; exact f1 i
  have k2 : ∀ i, w2.frozen? ⟨w.heap.size + 1 + 1, i, none⟩ = false := fun i => by rw [hf _ _ (by omega), World.frozen?_setCell]; exact f2 i
  have HB2 : Hid (Below w.heap.size w w2) := below_then HB'.out hb2
  have HP : Hid (OwnB w2 (w.heap.size + 3) w1.heap.size (some ⟨w.heap.size + 3, 0, none⟩) n z) := by
    have h := HO.out.writes (lo' := w.heap.size) (hi' := w.heap.size + 3) (Writes.setCell (Writes.refl _ _ _) (p := ⟨w.heap.size + 1 + 1, 0, none⟩) (by simp <;> omega) (by simp <;> omega) (.slice (some ⟨w.heap.size + 1 + 1 + 1, 0, none⟩) n n)) (.inr (Nat.le_refl _))
    exact h.below hb2
  have HQ : Hid (OwnB w2 w1.heap.size w2.heap.size (some ⟨w1.heap.size, 0, none⟩) m y) := ownB_rowIs ho2 (Nat.le_refl _)
  rw [es]
  have hs2 : w1.heap.size ≤ w2.heap.size := by have := hb2.size; rw [es] at this; exact this
  clear hc hf hb2 ho2 es q0 q1 r0 r1 s0 s1 f1 f2 HB'
  go_wp2_with fail
  refine bodyPost_ret (v := .agg #[.slice (some ⟨w.heap.size + 3, 0, none⟩) n n, .slice (some ⟨w1.heap.size, 0, none⟩) m m]) (by simp [results, Tryz.results23, go_sem, *]) rfl ⟨_, _, rfl, ?_, ?_⟩
  · repeat (first | exact HB2.out | refine Below.setCell ?_ (by first | omega | (simp <;> omega)) _)
  · have hw : ∀ w3, Writes w.heap.size (w.heap.size + 3) w2 w3 → w3.heap.size = w2.heap.size → OwnG w3 w.heap.size w3.heap.size (some ⟨w.heap.size + 3, 0, none⟩) (some ⟨w1.heap.size, 0, none⟩) ⟨n, z, m, y⟩ := fun w3 h e =>
      ⟨Nat.le_refl _, w.heap.size + 3, w1.heap.size, w1.heap.size, w2.heap.size, by omega, by omega, by omega, by omega, .inl (Nat.le_refl _), HP.out.writes h (.inr (Nat.le_refl _)), HQ.out.writes h (.inr (by omega))⟩
    refine hw _ ?_ (by simp [World.setCell])
    repeat (first | exact Writes.refl _ _ _ | refine Writes.setCell ?_ (by first | omega | (simp <;> omega)) (by first | omega | (simp <;> omega)) _)
theorem eqLog_same (L : Lo) (a1 a2 b1 b2 : Option Addr) (c1 c2 d1 d2 : Nat) (w : World) (hn1 : L.n1 ≤ 1048576) (hn2 : L.n2 ≤ 1048576) (h : LogAt w a1 a2 L) (h' : LogAt w b1 b2 L) :
    Calls Tryz.prog 33 #[.agg #[.slice a1 L.n1 c1, .slice a2 L.n2 c2], .agg #[.slice b1 L.n1 d1, .slice b2 L.n2 d2]] w fun e w' => e = .returned (.bool true) ∧ Below w.heap.size w w' := by
  have hb0 : ∀ o1 o2, Below w.heap.size w ((w.alloc o1).alloc o2) := fun o1 o2 => ((Below.refl _ _).alloc (Nat.le_refl _) _).alloc (by simp) _
  have H1 : Hid (LogAt w a1 a2 L) := h
  have H2 : Hid (LogAt w b1 b2 L) := h'
  clear h h'
  go_enter Tryz.func33, Tryz.ntmps33
  go_wp2_with fail
  refine (eqByteS_any L.n1 L.z1 a1 b1 c1 d1 _ (by omega) (H1.out.1.below (hb0 _ _)) (H2.out.1.below (hb0 _ _))).mono ?_
  rintro e w1 ⟨rfl, hb1⟩
  obtain ⟨hc, hf⟩ := bcell hb1
  have q1 : w1.cell? ⟨w.heap.size, 1, none⟩ = some (.slice a2 L.n2 c2) := by rw [hc _ _ (by simp <;> omega)]; simp [go_sem]
  have r1 : w1.cell? ⟨w.heap.size + 1, 1, none⟩ = some (.slice b2 L.n2 d2) := by rw [hc _ _ (by simp <;> omega)]; simp [go_sem]
  have HB1 : Hid (Below w.heap.size w w1) := below_then (hb0 _ _) hb1
  clear hc hf hb1 hb0
  go_wp2_with fail
  refine (eqByteS_any L.n2 L.z2 a2 b2 c2 d2 _ (by omega) (H1.out.2.below HB1.out) (H2.out.2.below HB1.out)).mono ?_
  rintro e w2 ⟨rfl, hb2⟩
  go_wp2_with fail
  go_ret
  exact ⟨rfl, below_then HB1.out hb2⟩
/-- A log with marks from m on. -/
def mG (m : Int) (L : Lo) : Lo := ⟨L.n1, bk m, L.n2, bk (m + L.n1)⟩
theorem cellsLog : Tryz.prog.cellsOf 29 = 2 := by kernel_rfl
end Go.Proofs.YtnplheilojhpmaaGreat
