/- spec.MergeActs. -/
import Derived.Test.YtcfenhnggccmmaaAmb
import Derived.BigQuiet
namespace Go.Proofs.Ytcfenhnggccmmaa
open Go.ChangeShapes Go.WideShapes Go.ChangeAt Go.RowKit Go.Deep Go.Joins
set_option linter.unusedVariables false
set_option linter.unusedSimpArgs false
set_option maxRecDepth 20000

set_option maxHeartbeats 16000000 in
theorem specMg_any (n : Nat) (T : Nat → Al) (a : Option Addr) (cap : Nat) (m : Nat) (P : Nat → Int) (d : Option Addr) (dc : Nat) (w : World) (hn : n ≤ 1048576) (hL : SmAl n T) (hm : m ≤ 1048576) (h : AlsAt w a n T) (hd : IntsAt w d m P) :
    Calls Try.prog 23 #[.slice a n cap, .slice d m dc] w (MRes (mgF n T m P) (mgK T P m).xs (mgK T P m).ws w) := by
  have HA : Hid (AlsAt w a n T) := h
  have HD : Hid (IntsAt w d m P) := hd
  have HL : Hid (SmAl n T) := hL
  have HMK := run_make_i9 n hn
  have HMN := run_make_n9 n hn
  clear h hd hL
  go_enter Try.func23, Try.ntmps23
  go_wp2_with fail
  refine (l16Asked_any n T a cap m P d dc _ hn HL.out hm (HA.out.below (below_new _ _)) (HD.out.below (below_new _ _))).mono ?_
  rintro e w1 ⟨rfl, hw1⟩
  by_cases hc : mgF n T m P = 0
  case neg =>
    have hb1 := below_new w (.cells #[.int .i64 0, .slice none 0 0, .slice none 0 0] 44)
    have B3 := Box3.new w (.int .i64 0) (.slice none 0 0) (.slice none 0 0) 44
    have rf : ∀ i, (w.alloc (.cells #[.int .i64 0, .slice none 0 0, .slice none 0 0] 44)).frozen? ⟨w.heap.size, i, none⟩ = false := fun i => by simp [go_sem]
    rw [← hw1] at hb1 B3 rf
    clear hw1
    have HBW : Hid (Below w.heap.size w w1) := hb1
    clear hb1
    obtain ⟨r0, r1, r2⟩ := B3
    have hc2 : (mgF n T m P != 0) = true := by simpa using hc
    have HF : Hid (∀ w7, Below w.heap.size w w7 → MRes (mgF n T m P) (mgK T P m).xs (mgK T P m).ws w (.returned (.agg #[.int .i64 (mgF n T m P), .slice none 0 0, .slice none 0 0])) w7) := fun w7 hb => mres_bad hb hc
    clear hc HMK HMN
    generalize mgF n T m P = uu at *
    go_wp2_with fail
    refine bodyPost_ret (v := .agg #[.int .i64 uu, .slice none 0 0, .slice none 0 0]) (by simp [results, Try.results23, go_sem, *]) rfl ?_
    refine HF.out _ ?_
    repeat (first | with_reducible exact HBW.out | with_reducible refine Below.setCell ?_ (by first | omega | (simp <;> omega)) _)
  have hm8 : m ≤ 80 := (mgF_ok hc).2.1
  have hs0 : sF n T = 0 := (mgF_ok hc).1
  have HPK : Hid (∀ j, j < m → 0 ≤ P j ∧ P j < n) := (mgF_ok hc).2.2
  have HST : Hid (∀ o1 o2 : Obj, o1 = .cells #[.int .i64 0, .slice none 0 0, .slice none 0 0] 44 → MgI w (((((w.alloc o1).alloc o1).alloc (.cells (madeCells #[.int .i64 0] n) 2))).alloc (.cells (madeCells #[.int .i64 0] n) 3)) n (w.heap.size + 1) (.slice none 0 0) (.slice none 0 0) mg0.id mg0.nx [] []) := fun o1 o2 h => MgI.start w n o1 o2 h
  have HC0 : Hid (mgF n T m P = 0) := hc
  rw [hc]
  clear hc hs0
  subst hw1
  go_wp2_with fail
  clear HMK HMN
  go_loopw [9, 10] (fun num i wr => ∃ k v1 v2, k ≤ m ∧ i = .int .i64 (k : Nat) ∧ num = .int .i64 (mgK T P k).num ∧ Hid (MgI w wr n (w.heap.size + 1) v1 v2 (mgK T P k).id (mgK T P k).nx (mgK T P k).xs (mgK T P k).ws)) (fun _ i _ => m - (intOf i).toNat)
  case atStart => exact ⟨0, _, _, Nat.zero_le _, rfl, rfl, HST.out _ (.cells #[] 0) rfl⟩
  case round =>
    obtain ⟨k, v1, v2, hk, rfl, rfl, HO⟩ := hrel
    have HMB : Hid (MgB (mgK T P k) k) := mgK_b T P k
    by_cases hlt : k < m
    · have hlt' : (k : Int) < (m : Int) := by omega
      have hk0 : (0 : Int) ≤ (k : Int) := by omega
      have hn0 := HMB.out.n0
      have hn1 := HMB.out.n1
      obtain ⟨p, hp⟩ : ∃ p : Nat, P k = p := ⟨(P k).toNat, by have := (HPK.out k hlt).1; omega⟩
      have hpn : p < n := by have := (HPK.out k hlt).2; omega
      have HE0 : Hid (mgK T P (k + 1) = mgN T p (mgK T P k)) := by show mgN T (P k).toNat _ = _; rw [hp]; rfl
      rcases HD.out.below HO.out.below with h | ⟨bb, off, rfl, hl, hcc⟩
      · omega
      rcases HA.out.below HO.out.below with h | ⟨ba, oa, rfl, hla, hca⟩
      · omega
      have x0 := hcc k hlt
      rw [hp] at x0
      obtain ⟨a0, c0, y0, y1, y2⟩ := hca p hpn
      have HLn := HL.out p hpn
      have z0 := HO.out.i p hpn
      have z1 := HO.out.x p hpn
      have hjp := HMB.out.j p
      have hp' : (p : Int) < (n : Int) := by omega
      have hp0 : (0 : Int) ≤ (p : Int) := by omega
      clear hcc hca hp
      have HXL : Hid ((mgK T P k).xs.length ≤ 100000 ∧ (mgK T P k).ws.length ≤ 100000) := by have h1 := HMB.out.x; have h2 := HMB.out.y; show _ ∧ _; omega
      clear HMB
      generalize hid : (mgK T P k).id p = id0 at *
      generalize hnx : (mgK T P k).nx p = j0 at *
      have Hid0 : Hid ((mgK T P k).id p = id0) := hid
      have Hnx0 : Hid ((mgK T P k).nx p = j0) := hnx
      clear hid hnx
      by_cases hz : id0 = 0
      · have hz2 : (id0 == 0) = true := by simp [hz]
        have HE1 : Hid (mgK T P (k + 1) = ⟨upf9 (mgK T P k).id p (mgK T P k).num, (mgK T P k).nx, (mgK T P k).num + 1, (mgK T P k).xs ++ [⟨1, 0, 0, 0⟩], (mgK T P k).ws ++ [(p : Int)]⟩) := by
          show _ = _
          rw [HE0.out, mgN, if_pos (Hid0.out.trans hz)]
        clear hz
        have hjf := HO.out.jf
        have hbf := HO.out.bf
        have hb1 := HO.out.b.2.1
        have hb2 := HO.out.b.2.2
        have hsz := HO.out.hsz
        have HO1 : Hid (MgI w (wr.setCell ⟨w.heap.size + 1 + 1, p, none⟩ (.int .i64 (mgK T P k).num)) n (w.heap.size + 1) v1 v2 (upf9 (mgK T P k).id p (mgK T P k).num) (mgK T P k).nx (mgK T P k).xs (mgK T P k).ws) := HO.out.setI hpn _
        have HO2 : Hid (∀ o : Obj, MgI w ((wr.setCell ⟨w.heap.size + 1 + 1, p, none⟩ (.int .i64 (mgK T P k).num)).alloc o) n (w.heap.size + 1) v1 v2 (upf9 (mgK T P k).id p (mgK T P k).num) (mgK T P k).nx (mgK T P k).xs (mgK T P k).ws) := fun o => HO1.out.mono (below_new _ _)
        generalize hnum : (mgK T P k).num = num at *
        have Hnum : Hid ((mgK T P k).num = num) := hnum
        clear hnum
        go_wp2_with (at_builtin; refine wpList_appAc _ rfl (.tmp 49) (.tmp 51) rfl (w.heap.size + 1 + 3) v1 (mgK T P k).xs rfl (HO2.out _).own.1 wr.heap.size 0 1 ⟨1, 0, 0, 0⟩ rfl (by simp [CAc, go_sem, World.setCell]) (by simp [World.setCell]; omega) HXL.out.1 ?_)
        intro g c w3 ho3 hg3 hl3 hlt3
        obtain ⟨hn3, b3, f3⟩ := MgI.one1 (HO2.out _) hg3 ho3 (hl3.imp id fun h => by simpa [World.setCell] using h)
        have HO3 : Hid (MgI w (w3.setCell ⟨w.heap.size + 1, 1, none⟩ (.slice (some ⟨g, 0, none⟩) ((mgK T P k).xs.length + 1) c)) n (w.heap.size + 1) (.slice (some ⟨g, 0, none⟩) ((mgK T P k).xs.length + 1) c) v2 (upf9 (mgK T P k).id p num) (mgK T P k).nx ((mgK T P k).xs ++ [⟨1, 0, 0, 0⟩]) (mgK T P k).ws) := hn3
        obtain ⟨q0, q1, q2⟩ := b3
        have hsz3 := HO3.out.hsz
        have hbf3 := HO3.out.bf
        have hb32 := HO3.out.b.2.2
        have HO4 : Hid (∀ o : Obj, MgI w ((w3.setCell ⟨w.heap.size + 1, 1, none⟩ (.slice (some ⟨g, 0, none⟩) ((mgK T P k).xs.length + 1) c)).alloc o) n (w.heap.size + 1) (.slice (some ⟨g, 0, none⟩) ((mgK T P k).xs.length + 1) c) v2 (upf9 (mgK T P k).id p num) (mgK T P k).nx ((mgK T P k).xs ++ [⟨1, 0, 0, 0⟩]) (mgK T P k).ws) := fun o => HO3.out.mono (below_new _ _)
        clear hn3 hl3 ho3 hg3 hb1 hb2 z0 z1 x0 y0
        generalize ((mgK T P k).xs.length + 1) = len3 at *
        go_wp2_with (at_builtin; refine wpList_appIL _ rfl (.tmp 55) (.tmp 57) rfl (w.heap.size + 1 + 3) v2 (mgK T P k).ws rfl (HO4.out _).own.2.1 w3.heap.size 0 1 p rfl (by simp [go_sem, World.setCell]) (by simp [World.setCell] at hsz3 ⊢; omega) HXL.out.2 ?_)
        intro g4 c4 w4 ho4 hg4 hl4 hlt4
        obtain ⟨hn4, b4, f4⟩ := MgI.one2 (HO4.out _) hg4 ho4 (hl4.imp id fun h => by simpa [World.setCell] using h)
        have HO5 : Hid (MgI w (w4.setCell ⟨w.heap.size + 1, 2, none⟩ (.slice (some ⟨g4, 0, none⟩) ((mgK T P k).ws.length + 1) c4)) n (w.heap.size + 1) (.slice (some ⟨g, 0, none⟩) len3 c) (.slice (some ⟨g4, 0, none⟩) ((mgK T P k).ws.length + 1) c4) (upf9 (mgK T P k).id p num) (mgK T P k).nx ((mgK T P k).xs ++ [⟨1, 0, 0, 0⟩]) ((mgK T P k).ws ++ [(p : Int)])) := hn4
        obtain ⟨r40, r41, r42⟩ := b4
        clear hn4 hl4 ho4 hg4 q0 q1 q2 hb32 HO4 HO3 HO2 HO1 HO
        generalize ((mgK T P k).ws.length + 1) = len4 at *
        go_wp2_with fail
        go_roundw
        case rel => exact ⟨k + 1, _, _, hlt, by go_num, by rw [HE1.out], by rw [HE1.out]; exact HO5⟩
        case measure => first | (simp [intOf]; done) | (simp [intOf]; omega)
      · have hz2 : (id0 == 0) = false := by simp [hz]
        have HE1 : Hid (mgK T P (k + 1) = if j0 < (T p).n then ⟨(mgK T P k).id, upf9 (mgK T P k).nx p (j0 + 1), (mgK T P k).num, (mgK T P k).xs ++ [⟨((T p).R j0).k, id0, ((T p).R j0).y, ((T p).R j0).o⟩], (mgK T P k).ws ++ [(p : Int)]⟩ else mgK T P k) := by
          show _ = _
          rw [HE0.out, mgN, if_neg (fun h => hz (Hid0.out.symm.trans h)), Hnx0.out, Hid0.out]
        clear hz HE0
        generalize hnum : (mgK T P k).num = num at *
        have Hnum : Hid ((mgK T P k).num = num) := hnum
        clear hnum
        by_cases hjn : j0 < (T p).n
        · have hjn' : (j0 : Int) < ((T p).n : Int) := by omega
          rcases y1 with h | ⟨b2, off2, rfl, hl2, hc2⟩
          · omega
          have HOD : Hid (∀ q, MgI w (wr.drewN q) n (w.heap.size + 1) v1 v2 (mgK T P k).id (mgK T P k).nx (mgK T P k).xs (mgK T P k).ws) := fun q => HO.out.mono (below_drewN (Below.refl _ _) _)
          have HQ2 : Hid (CAc wr b2 (off2 + j0 * 4) ((T p).R j0)) := hc2 j0 hjn
          clear hc2
          go_wp2_with fail
          go_quiet (fail)
          go_wp2_with fail
          have HQ3 : Hid (CAc (wr.drewN nq) b2 (off2 + j0 * 4) ((T p).R j0)) := HQ2.out.block (by rfl)
          have y3 := cell_below y0 (below_drewN (Below.refl _ wr) nq)
          have hla3 : ba < (wr.drewN nq).heap.size := hla
          have hb23 : b2 < (wr.drewN nq).heap.size := hl2
          have HO0 := HOD.out nq
          clear HOD HQ2 y0 z0 z1 x0 HO
          generalize wr.drewN nq = wq at *
          have HO : Hid (MgI w wq n (w.heap.size + 1) v1 v2 (mgK T P k).id (mgK T P k).nx (mgK T P k).xs (mgK T P k).ws) := HO0
          have z0 := HO0.i p hpn
          have z1 := HO0.x p hpn
          rw [Hid0.out] at z0
          rw [Hnx0.out] at z1
          obtain ⟨k0, k1, k2, k3⟩ := HQ3.out
          have HE2 : Hid (mgK T P (k + 1) = ⟨(mgK T P k).id, upf9 (mgK T P k).nx p (j0 + 1), num, (mgK T P k).xs ++ [⟨((T p).R j0).k, id0, ((T p).R j0).y, ((T p).R j0).o⟩], (mgK T P k).ws ++ [(p : Int)]⟩) := by have h := HE1.out; rwa [if_pos hjn] at h
          generalize (T p).R j0 = rr at *
          clear HQ3 HE1 HO0
          have hxf := HO.out.xf
          have hbf := HO.out.bf
          have hb1 := HO.out.b.2.1
          have hb2' := HO.out.b.2.2
          have hsz := HO.out.hsz
          have z1' : wq.cell? ⟨w.heap.size + 1 + 1 + 1, p, none⟩ = some (.int .i64 (j0 : Int)) := z1
          have hxf' : ∀ o, wq.frozen? ⟨w.heap.size + 1 + 1 + 1, o, none⟩ = false := hxf
          clear z1 hxf
          have e0 := fun o : Obj => cell_alloc z0 o
          have e1 := fun o : Obj => cell_alloc z1' o
          have e3 := fun o : Obj => cell_alloc y3 o
          have e4 := fun o : Obj => cell_alloc k0 o
          have e5 := fun o : Obj => cell_alloc k1 o
          have e6 := fun o : Obj => cell_alloc k2 o
          have e7 := fun o : Obj => cell_alloc k3 o
          go_region
          have HBN : Hid (Below wq.heap.size wq (wq.alloc (.cells #[.int .i64 rr.k, .int .i64 rr.t, .int .i64 rr.y, .int .i64 rr.o] 53)).drew) := (below_new _ _).drew
          have HX0 : CAc (wq.alloc (.cells #[.int .i64 rr.k, .int .i64 rr.t, .int .i64 rr.y, .int .i64 rr.o] 53)).drew wq.heap.size 0 rr := by simp [CAc, go_sem]
          have hfX : ∀ o, (wq.alloc (.cells #[.int .i64 rr.k, .int .i64 rr.t, .int .i64 rr.y, .int .i64 rr.o] 53)).drew.frozen? ⟨wq.heap.size, o, none⟩ = false := fun o => by simp [go_sem]
          have HSX : Hid ((wq.alloc (.cells #[.int .i64 rr.k, .int .i64 rr.t, .int .i64 rr.y, .int .i64 rr.o] 53)).drew.heap.size = wq.heap.size + 1) := by show _ = _; simp
          have HO1 := HO.out.mono HBN.out
          generalize (wq.alloc (.cells #[.int .i64 rr.k, .int .i64 rr.t, .int .i64 rr.y, .int .i64 rr.o] 53)).drew = W1 at *
          have HOA : Hid (MgI w W1 n (w.heap.size + 1) v1 v2 (mgK T P k).id (mgK T P k).nx (mgK T P k).xs (mgK T P k).ws) := HO1
          clear HO1 e0 e1 e3 e4 e5 e6 e7 k0 k1 k2 k3 y3 z0 z1' hxf' hbf hb1 hb2' hsz
          obtain ⟨X, hX⟩ : ∃ X, X = wq.heap.size := ⟨_, rfl⟩
          rw [← hX] at HX0 hfX HBN HSX hb23 hla3 ⊢
          have HXD : Hid (X = wq.heap.size) := hX
          clear hX
          have z0 : W1.cell? ⟨w.heap.size + 1 + 1, p, none⟩ = some (.int .i64 id0) := by have h := HOA.out.i p hpn; rwa [Hid0.out] at h
          have z1 : W1.cell? ⟨w.heap.size + 1 + 1 + 1, p, none⟩ = some (.int .i64 (j0 : Int)) := by have h := HOA.out.x p hpn; rw [Hnx0.out] at h; exact h
          have hxf : ∀ o, W1.frozen? ⟨w.heap.size + 1 + 1 + 1, o, none⟩ = false := HOA.out.xf
          have hbf := HOA.out.bf
          have hb1 := HOA.out.b.2.1
          have hb2' := HOA.out.b.2.2
          obtain ⟨k0, k1, k2, k3⟩ := HX0
          have hXB : w.heap.size + 4 ≤ X := by have := HO.out.hsz; rw [HXD.out]; omega
          have HO2 : Hid (MgI w ((W1.setCell ⟨X, 1, none⟩ (.int .i64 id0)).setCell ⟨w.heap.size + 1 + 1 + 1, p, none⟩ (.int .i64 ((j0 : Int) + 1))) n (w.heap.size + 1) v1 v2 (mgK T P k).id (upf9 (mgK T P k).nx p (j0 + 1)) (mgK T P k).xs (mgK T P k).ws) := by
            have hbx := HBN.out.setCell (p := ⟨X, 1, none⟩) (Nat.le_refl _) (.int .i64 id0)
            rw [HXD.out] at hbx ⊢
            have h := (HO.out.mono hbx).setX hpn (j0 + 1)
            rw [show ((j0 + 1 : Nat) : Int) = (j0 : Int) + 1 by omega] at h
            exact h
          have HO3 : Hid (∀ o : Obj, MgI w (((W1.setCell ⟨X, 1, none⟩ (.int .i64 id0)).setCell ⟨w.heap.size + 1 + 1 + 1, p, none⟩ (.int .i64 ((j0 : Int) + 1))).alloc o) n (w.heap.size + 1) v1 v2 (mgK T P k).id (upf9 (mgK T P k).nx p (j0 + 1)) (mgK T P k).xs (mgK T P k).ws) := fun o => HO2.out.mono (below_new _ _)
          have HBZ : Hid (w.heap.size + 1 + 3 ≤ W1.heap.size) := HOA.out.hsz
          clear HO HOA HBN
          go_wp2_with (at_builtin; refine wpList_appAc _ rfl (.tmp 92) (.tmp 94) rfl (w.heap.size + 1 + 3) v1 (mgK T P k).xs rfl (HO3.out _).own.1 W1.heap.size 0 1 ⟨rr.k, id0, rr.y, rr.o⟩ rfl (by simp [CAc, go_sem, World.setCell]) (by have h := HBZ.out; simp [World.setCell]; omega) HXL.out.1 ?_)
          intro g c w3 ho3 hg3 hl3 hlt3
          obtain ⟨hn3, b3, f3⟩ := MgI.one1 (HO3.out _) hg3 ho3 (hl3.imp id fun h => by simpa [World.setCell] using h)
          have HO4 : Hid (MgI w (w3.setCell ⟨w.heap.size + 1, 1, none⟩ (.slice (some ⟨g, 0, none⟩) ((mgK T P k).xs.length + 1) c)) n (w.heap.size + 1) (.slice (some ⟨g, 0, none⟩) ((mgK T P k).xs.length + 1) c) v2 (mgK T P k).id (upf9 (mgK T P k).nx p (j0 + 1)) ((mgK T P k).xs ++ [⟨rr.k, id0, rr.y, rr.o⟩]) (mgK T P k).ws) := hn3
          obtain ⟨q0, q1, q2⟩ := b3
          have hsz3 := HO4.out.hsz
          have hbf3 := HO4.out.bf
          have hb32 := HO4.out.b.2.2
          have HO5 : Hid (∀ o : Obj, MgI w ((w3.setCell ⟨w.heap.size + 1, 1, none⟩ (.slice (some ⟨g, 0, none⟩) ((mgK T P k).xs.length + 1) c)).alloc o) n (w.heap.size + 1) (.slice (some ⟨g, 0, none⟩) ((mgK T P k).xs.length + 1) c) v2 (mgK T P k).id (upf9 (mgK T P k).nx p (j0 + 1)) ((mgK T P k).xs ++ [⟨rr.k, id0, rr.y, rr.o⟩]) (mgK T P k).ws) := fun o => HO4.out.mono (below_new _ _)
          clear hn3 hl3 ho3 hg3 hb1 hb2' z0 z1 k0 k1 k2 k3 hxf hbf hfX
          generalize ((mgK T P k).xs.length + 1) = len3 at *
          go_wp2_with (at_builtin; refine wpList_appIL _ rfl (.tmp 98) (.tmp 100) rfl (w.heap.size + 1 + 3) v2 (mgK T P k).ws rfl (HO5.out _).own.2.1 w3.heap.size 0 1 p rfl (by simp [go_sem, World.setCell]) (by simp [World.setCell] at hsz3 ⊢; omega) HXL.out.2 ?_)
          intro g4 c4 w4 ho4 hg4 hl4 hlt4
          obtain ⟨hn4, b4, f4⟩ := MgI.one2 (HO5.out _) hg4 ho4 (hl4.imp id fun h => by simpa [World.setCell] using h)
          have HO6 : Hid (MgI w (w4.setCell ⟨w.heap.size + 1, 2, none⟩ (.slice (some ⟨g4, 0, none⟩) ((mgK T P k).ws.length + 1) c4)) n (w.heap.size + 1) (.slice (some ⟨g, 0, none⟩) len3 c) (.slice (some ⟨g4, 0, none⟩) ((mgK T P k).ws.length + 1) c4) (mgK T P k).id (upf9 (mgK T P k).nx p (j0 + 1)) ((mgK T P k).xs ++ [⟨rr.k, id0, rr.y, rr.o⟩]) ((mgK T P k).ws ++ [(p : Int)])) := hn4
          obtain ⟨r40, r41, r42⟩ := b4
          clear hn4 hl4 ho4 hg4 q0 q1 q2 hb32 HO5 HO4 HO3 HO2
          generalize ((mgK T P k).ws.length + 1) = len4 at *
          go_wp2_with fail
          go_roundw
          case rel => exact ⟨k + 1, _, _, hlt, by go_num, by rw [HE2.out], by rw [HE2.out]; exact HO6⟩
          case measure => first | (simp [intOf]; done) | (simp [intOf]; omega)
        · have hjn' : ¬ (j0 : Int) < ((T p).n : Int) := by omega
          have HE2 : Hid (mgK T P (k + 1) = mgK T P k) := by have h := HE1.out; rwa [if_neg hjn] at h
          have HOD : Hid (∀ q, MgI w (wr.drewN q) n (w.heap.size + 1) v1 v2 (mgK T P k).id (mgK T P k).nx (mgK T P k).xs (mgK T P k).ws) := fun q => HO.out.mono (below_drewN (Below.refl _ _) _)
          clear HE1
          go_wp2_with fail
          go_quiet (fail)
          go_wp2_with fail
          go_roundw
          case rel => exact ⟨k + 1, v1, v2, hlt, by go_num, by rw [HE2.out, Hnum.out], by rw [HE2.out]; exact HOD.out _⟩
          case measure => first | (simp [intOf]; done) | (simp [intOf]; omega)
    · obtain rfl : k = m := by omega
      have hnl : ¬ ((k : Int) < (k : Int)) := by omega
      obtain ⟨va, vc, hv1⟩ := rowA_slice HO.out.own.1
      obtain ⟨va2, vc2, hv2⟩ := row1_slice HO.out.own.2.1
      have HF : Hid (∀ w7, Writes w.heap.size (w.heap.size + 1) wr w7 → w7.heap.size = wr.heap.size → MRes (mgF n T k P) (mgK T P k).xs (mgK T P k).ws w (.returned (.agg #[.int .i64 0, v1, v2])) w7) := fun w7 hw hs7 => mres_ok HC0.out HO.out.below (Nat.le_refl _) (Nat.le_succ _) (by omega) HO.out.own hw hs7
      obtain ⟨r0, r1, r2⟩ := HO.out.r
      obtain ⟨g0, g1, g2⟩ := HO.out.b
      have rf := HO.out.rf
      clear HO HMB
      subst hv1 hv2
      generalize (mgK T P k).xs.length = l1 at *
      generalize (mgK T P k).ws.length = l2 at *
      generalize (mgK T P k).num = num at *
      go_wp2_with fail
      refine bodyPost_ret (v := .agg #[.int .i64 0, .slice va l1 vc, .slice va2 l2 vc2]) (by simp [results, Try.results23, go_sem, *]) rfl ?_
      refine HF.out _ ?_ (by simp [World.setCell])
      repeat (first | with_reducible exact Writes.refl _ _ _ | with_reducible refine Writes.setCell ?_ (by first | omega | (simp <;> omega)) (by first | omega | (simp <;> omega)) _)
end Go.Proofs.Ytcfenhnggccmmaa
