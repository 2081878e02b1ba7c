/- spec.l2Sync, spec.SyncDisk. -/
import Derived.Test.YtaokclhcmgbgnaaGreatQDo
import Derived.Test.YtaokclhcmgbgnaaGreatQLpx
namespace Go.Proofs.YtaokclhcmgbgnaaGreat
open Go.RowKit Go.Deep
set_option linter.unusedVariables false
set_option maxRecDepth 20000

theorem below_of_writes {lo hi a : Nat} {w w' : World} (h : Writes lo hi w w') (e : a ≤ lo) (e2 : a ≤ w.heap.size) : Below a w w' := ⟨h.os, h.tape, h.output, h.size, fun q hq => h.block q (by omega) (by omega)⟩
theorem stl_id (D : Dk) (k : Nat) : stl D idF (k + 1) = lay (stl D idF k) (D.P k) (D.T k) (D.Y k) := by
  show lay (stl D idF k) (D.P (idF k).toNat) (D.T (idF k).toNat) (D.Y (idF k).toNat) = _
  have : (idF k).toNat = k := by unfold idF; omega
  rw [this]
set_option maxHeartbeats 4000000 in
theorem l2Sync_any (D : Dk) (a a' : Option Addr) (cap cap' : Nat) (w : World) (hg : GoodD D) (h : DiskAt w a a' D) :
    Calls Tryz.prog 31 #[.agg #[.slice a D.n cap, .slice a' D.m cap']] w fun e w' => ∃ a1 c1, e = .returned (.agg #[.slice a1 D.n c1, .slice none 0 0]) ∧ Below w.heap.size w w' ∧ OwnP w' w.heap.size w'.heap.size a1 D.n (fun _ => 48) (stl D idF D.m) := by
  have hb0 : ∀ o1 o2, Below w.heap.size w ((w.alloc o1).alloc o2) := fun o1 o2 => ((Below.refl _ _).alloc (Nat.le_refl _) _).alloc (by simp) _
  have HG : Hid (GoodD D) := hg
  have HA : Hid (DiskAt w a a' D) := h
  have hm60 := hg.m
  have hn8 := hg.n8
  clear hg h
  go_enter Tryz.func31, Tryz.ntmps31
  go_wp2_with fail
  refine (l2Copy_any D.n D.m D.L D.Z D.P D.T D.M D.Y a a' cap cap' _ HG.out.n8 (by omega) HG.out.L HG.out.M (HA.out.1.below (hb0 _ _)) (HA.out.2.below (hb0 _ _))).mono ?_
  rintro e w1 ⟨av, cv, v0, mid, rfl, hb1, hmid, hop, hal⟩
  obtain ⟨va, vc, rfl, -, -⟩ := hal.own
  have e2 : ∀ o1 o2 : Obj, ((w.alloc o1).alloc o2).heap.size = w.heap.size + 2 := fun _ _ => by simp
  rw [e2] at hmid
  have hz1 : w.heap.size + 2 ≤ w1.heap.size := by have := hb1.size; rw [e2] at this; exact this
  obtain ⟨hcc, hff⟩ := bcell hb1
  have q0 : w1.cell? ⟨w.heap.size, 0, none⟩ = some (.slice a D.n cap) := by rw [hcc _ _ (by simp <;> omega)]; simp [go_sem]
  have q1 : w1.cell? ⟨w.heap.size, 1, none⟩ = some (.slice a' D.m cap') := by rw [hcc _ _ (by simp <;> omega)]; simp [go_sem]
  have r0 : w1.cell? ⟨w.heap.size + 1, 0, none⟩ = some (.slice none 0 0) := by rw [hcc _ _ (by simp <;> omega)]; simp [go_sem]
  have r1 : w1.cell? ⟨w.heap.size + 1, 1, none⟩ = some (.slice none 0 0) := by rw [hcc _ _ (by simp <;> omega)]; simp [go_sem]
  have fz : ∀ i, w1.frozen? ⟨w.heap.size + 1, i, none⟩ = false := fun i => by rw [hff _ _ (by simp <;> omega)]; simp [go_sem]
  have HB1 : Hid (Below w.heap.size w w1) := below_then (hb0 _ _) hb1
  have HOP : Hid (OwnP w1 (w.heap.size + 2) mid av D.n (fun _ => 48) D.Z) := by rw [e2] at hop; exact hop
  have hml : mid ≤ w1.heap.size := hop.1
  clear hb1 hop hal hcc hff hb0 e2
  go_wp2_with fail
  go_loopw [4] (fun i wr => ∃ k : Nat, k ≤ D.m ∧ i = .int .i64 k ∧ Hid (Writes (w.heap.size + 2) mid (w1.alloc (.cells #[.slice av D.n cv, .slice va D.m vc] 38)) wr) ∧ Hid (OwnP wr (w.heap.size + 2) mid av D.n (fun _ => 48) (stl D idF k))) (fun i _ => D.m - (intOf i).toNat)
  case atStart => exact ⟨0, by omega, rfl, Writes.refl _ _ _, HOP.out.below (below_new _ _)⟩
  case round =>
    obtain ⟨k, hk0, rfl, HW, HP⟩ := hrel
    have hsz : w1.heap.size + 1 ≤ wr.heap.size := by have := HW.out.size; rw [World.size_alloc] at this; exact this
    have cw : ∀ q o' v, (q < w.heap.size + 2 ∨ mid ≤ q) → q < w1.heap.size + 1 → (w1.alloc (.cells #[.slice av D.n cv, .slice va D.m vc] 38)).cell? ⟨q, o', none⟩ = some v → wr.cell? ⟨q, o', none⟩ = some v := fun q o' v h1 h2 h3 => (HW.out.cell (by rw [World.size_alloc]; omega) (by omega) o').trans h3
    have bx := Box2.new w1 (.slice av D.n cv) (.slice va D.m vc) 38
    have p0 := cw _ _ _ (by omega) (by omega) (cell_alloc q0 _)
    have p1 := cw _ _ _ (by omega) (by omega) (cell_alloc q1 _)
    have y0 := cw _ _ _ (by omega) (by omega) (cell_alloc r0 _)
    have y1 := cw _ _ _ (by omega) (by omega) (cell_alloc r1 _)
    have b0 := cw _ _ _ (by omega) (by omega) bx.1
    have b1 := cw _ _ _ (by omega) (by omega) bx.2
    have HB : Hid (Below w.heap.size w wr) := (HB1.out.alloc HB1.out.size _).trans (below_of_writes HW.out (by omega) (by rw [World.size_alloc]; omega))
    by_cases hlt : k < D.m
    · have hlt' : (k : Int) < (D.m : Int) := by omega
      rcases HA.out.2 with h | ⟨b, off, rfl, hl, hc⟩
      · omega
      obtain ⟨h0, h1, ai, ci, h2, hy, hcap⟩ := hc k hlt
      rw [HG.out.M k hlt] at h2 hy
      obtain ⟨p, hp⟩ : ∃ p : Nat, D.P k = p := ⟨(D.P k).toNat, by have := HG.out.P k hlt; omega⟩
      obtain ⟨t, ht⟩ : ∃ t : Nat, D.T k = t := ⟨(D.T k).toNat, by have := HG.out.T k hlt; omega⟩
      have hpn : p < D.n := by have := HG.out.P k hlt; omega
      have ht3 : t < 3 := by have := HG.out.T k hlt; omega
      have HST : Hid (stl D idF (k + 1) = lay (stl D idF k) p t (D.Y k)) := by
        show stl D idF (k + 1) = _
        rw [stl_id, hp, ht]
      rw [hp] at h0
      rw [ht] at h1
      have hc' : ∀ o v, w.cell? ⟨b, o, none⟩ = some v → wr.cell? ⟨b, o, none⟩ = some v := fun o v h => (HB.out.cell (p := ⟨b, o, none⟩) hl).trans h
      have h0' := hc' _ _ h0
      have h1' := hc' _ _ h1
      have h2' := hc' _ _ h2
      have HY : Hid (∃ ba oa, ai = some ⟨ba, oa, none⟩ ∧ (ba < w.heap.size + 2 ∨ mid ≤ ba) ∧ ∀ i, i < 16 → wr.cell? ⟨ba, oa + i, none⟩ = some (.int .u8 (D.Y k i))) := by
        rcases hy with h | ⟨ba, oa, e, hl, hc⟩
        · omega
        · exact ⟨ba, oa, e, .inl (by omega), fun i hi => (HB.out.cell (p := ⟨ba, oa + i, none⟩) hl).trans (hc i hi)⟩
      generalize hZ : stl D idF k = Zk at *
      clear hc hy hcap hc' h0 h1 h2 cw bx hp ht
      go_wp2_with fail
      refine (l2Do_any w1.heap.size D.n p t Zk (D.Y k) av ai cv ci (w.heap.size + 2) mid _ hpn (by omega) ht3 b0 (.inr hml) HP.out HY.out).mono ?_
      rintro e w3 ⟨rfl, hw3, hop3⟩
      have HW3 : Hid (Writes (w.heap.size + 2) mid wr w3) := hw3
      have HP3 : Hid (OwnP w3 (w.heap.size + 2) mid av D.n (fun _ => 48) (lay Zk p t (D.Y k))) := hop3
      clear hw3 hop3 h0' h1' h2' p0 p1 y0 y1 b0 b1
      go_wp2_with fail
      go_roundw
      case rel =>
        refine ⟨k + 1, hlt, by go_num, HW.out.trans HW3.out, ?_⟩
        show OwnP _ _ _ _ _ _ (stl D idF (k + 1))
        rw [HST.out]; exact HP3.out
      case measure => simp [intOf]; omega
    · have hkn : k = D.m := by omega
      have HP2 : Hid (OwnP wr (w.heap.size + 2) mid av D.n (fun _ => 48) (stl D idF D.m)) := by have h := HP.out; rw [hkn] at h; exact h
      have fy : ∀ i, wr.frozen? ⟨w.heap.size + 1, i, none⟩ = false := fun i => by
        rw [World.frozen?_of_block (HW.out.block (w.heap.size + 1) (by rw [World.size_alloc]; omega) (by omega)), World.frozen?_alloc_past _ _ _ (by show w.heap.size + 1 < _; omega)]; exact fz i
      have fb : ∀ i, wr.frozen? ⟨w1.heap.size, i, none⟩ = false := fun i => by
        rw [World.frozen?_of_block (HW.out.block w1.heap.size (by rw [World.size_alloc]; omega) (by omega))]; exact frozen_block (heap_alloc_last _ _)
      clear hkn HP cw bx q0 q1 r0 r1 fz
      go_wp2_with fail
      refine bodyPost_ret (v := .agg #[.slice av D.n cv, .slice none 0 0]) (by simp [results, Tryz.results31, go_sem, *]) rfl ⟨av, cv, rfl, ?_, ?_⟩
      · repeat (first | exact HB.out | refine Below.setCell ?_ (by first | omega | (simp <;> omega)) _)
      · have hw : ∀ w6 w7, Writes w1.heap.size (w1.heap.size + 1) wr w6 → Writes (w.heap.size + 1) (w.heap.size + 2) w6 w7 → OwnP w7 w.heap.size w7.heap.size av D.n (fun _ => 48) (stl D idF D.m) := fun w6 w7 h6 h7 =>
          ((HP2.out.writes h6 (.inl hml)).writes h7 (.inr (Nat.le_refl _))).wide (by omega) (by have := h6.size; have := h7.size; omega) (Nat.le_refl _)
        refine hw (wr.setCell ⟨w1.heap.size, 1, none⟩ (.slice none 0 0)) _ ?_ ?_
        · exact Writes.setCell (Writes.refl _ _ _) (p := ⟨w1.heap.size, 1, none⟩) (Nat.le_refl _) (Nat.lt_succ_self _) _
        · repeat (first | exact Writes.refl _ _ _ | refine Writes.setCell ?_ (by first | omega | (simp <;> omega)) (by first | omega | (simp <;> omega)) _)
end Go.Proofs.YtaokclhcmgbgnaaGreat
