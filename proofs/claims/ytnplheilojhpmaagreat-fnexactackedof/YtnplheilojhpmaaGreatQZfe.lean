/- spec.StoreFault; an argument of type laws.Store, opened. -/
import Derived.Test.YtnplheilojhpmaaGreatQZfd
namespace Go.Proofs.YtnplheilojhpmaaGreat
open Go.ChangeShapes Go.WideShapes Go.ChangeAt Go.RowKit Go.Deep Go.Joins
set_option linter.unusedVariables false
set_option maxRecDepth 20000

set_option maxHeartbeats 8000000 in
theorem l12Fault_any (t : Sto) (B : Nat) (a0 : Option Addr) (c0 : Nat) (a1 : Option Addr) (c1 : Nat) (a2 : Option Addr) (c2 : Nat) (a3 : Option Addr) (c3 : Nat) (a4 : Option Addr) (c4 : Nat) (a5 : Option Addr) (c5 : Nat) (a6 : Option Addr) (c6 : Nat) (w : World) (hS : SmSt t) (hby : LogByt t.g)
    (hX : BoxS w B (.int .i64 t.nx) (.slice a0 t.pn c0) (.slice a1 t.d.n c1) (.slice a2 t.d.m c2) (.slice a3 t.g.n1 c3) (.slice a4 t.g.n2 c4) (.slice a5 t.hn c5) (.slice a6 t.on c6)) (h : InSt w a0 a1 a2 a3 a4 a5 a6 t) :
    Calls Tryz.prog 18 #[.pointer (some ⟨B, 0, none⟩)] w fun e w' => e = .returned (.int .i64 (stF t)) ∧ Below w.heap.size w w' := by
  have HA : Hid (InSt w a0 a1 a2 a3 a4 a5 a6 t) := h
  obtain ⟨⟨hS0, hS1, hS2⟩, hSd, ⟨hSg, hSg'⟩, hSh, hSo⟩ := hS
  have HSP : Hid (∀ i, i < t.pn → SmPg (t.pT i)) := hS1
  have HE : Hid (stF t = if inB t.nx 1 999 = true then (if t.pn = 4 then (if psF t.pT t.pn 0 = 0 then (if df t.d = 0 then (if t.d.n = 4 then (if lgC t.g = 0 then (if onF t.nx t.oF t.on 0 = 0 then hdF (ivL t.oF t.on) t.hK t.hV t.hn 0 else onF t.nx t.oF t.on 0) else lgC t.g) else 1) else df t.d) else psF t.pT t.pn 0) else 1) else 3) := rfl
  generalize stF t = C at *
  have HX : Hid (BoxS w B (.int .i64 t.nx) (.slice a0 t.pn c0) (.slice a1 t.d.n c1) (.slice a2 t.d.m c2) (.slice a3 t.g.n1 c3) (.slice a4 t.g.n2 c4) (.slice a5 t.hn c5) (.slice a6 t.on c6)) := hX
  clear h hS1 hS2
  obtain ⟨x0, x1, x2, x3, x4, x5, x6, x7⟩ := hX
  go_enter Tryz.func18, Tryz.ntmps18
  obtain k1 | k1 := boolor (inB t.nx 1 999)
  case inr =>
    replace HE : Hid (C = 3) := HE.out.trans (if_neg (by simp [k1]))
    go_wp2_with (first | (go_at_call 45; refine (l3Txn_any _ _).mono ?_; rintro e w' ⟨rfl, hq⟩; have hq2 := hq.symm; clear hq; subst hq2; rw [k1]))
    go_ret
    exact ⟨ret_int HE.out.symm, Below.refl _ _⟩
  replace HE : Hid (C = _) := HE.out.trans (if_pos k1)
  go_wp2_with (first | (go_at_call 45; refine (l3Txn_any _ _).mono ?_; rintro e w' ⟨rfl, hq⟩; have hq2 := hq.symm; clear hq; subst hq2; rw [k1]))
  refine (l12Pages_any t.pn t.pT B a0 c0 _ hS0 HSP.out x1 HA.out.1).mono ?_
  rintro e w1 ⟨rfl, hb⟩
  have HB : Hid (Below w.heap.size w w1) := hb
  replace HX := HX.out.below hb
  clear hb x0 x1 x2 x3 x4 x5 x6 x7
  obtain ⟨x0, x1, x2, x3, x4, x5, x6, x7⟩ := HX
  by_cases k2 : t.pn = 4
  case neg =>
    replace HE : Hid (C = 1) := HE.out.trans (if_neg k2)
    rw [if_neg k2]
    clear k2
    go_wp2_with fail
    go_ret
    exact ⟨ret_int HE.out.symm, HB.out⟩
  replace HE : Hid (C = _) := HE.out.trans (if_pos k2)
  rw [if_pos k2]
  clear k2
  by_cases k3 : psF t.pT t.pn 0 = 0
  case neg =>
    replace HE : Hid (C = psF t.pT t.pn 0) := HE.out.trans (if_neg k3)
    generalize psF t.pT t.pn 0 = c at *
    have h0' : (c != 0) = true := by simp [k3]
    clear k3
    go_wp2_with fail
    go_ret
    exact ⟨ret_int HE.out.symm, HB.out⟩
  replace HE : Hid (C = _) := HE.out.trans (if_pos k3)
  rw [k3]
  clear k3
  go_wp2_with fail
  refine (specDf_any t.d a1 a2 c1 c2 _ hSd (HA.out.2.1.below HB.out)).mono ?_
  rintro e w2 ⟨rfl, hb⟩
  replace HB : Hid (Below w.heap.size w w2) := below_then HB.out hb
  replace x0 := cell_below x0 hb
  replace x2 := cell_below x2 hb
  replace x4 := cell_below x4 hb
  replace x5 := cell_below x5 hb
  replace x6 := cell_below x6 hb
  replace x7 := cell_below x7 hb
  clear hb x1 x3
  by_cases h0 : df t.d = 0
  case neg =>
    replace HE : Hid (C = df t.d) := HE.out.trans (if_neg h0)
    generalize df t.d = c at *
    have h0' : (c != 0) = true := by simp [h0]
    clear h0
    go_wp2_with fail
    go_ret
    exact ⟨ret_int HE.out.symm, HB.out⟩
  replace HE : Hid (C = _) := HE.out.trans (if_pos h0)
  rw [h0]
  clear h0
  by_cases h1 : t.d.n = 4
  case neg =>
    replace HE : Hid (C = 1) := HE.out.trans (if_neg h1)
    have h0' : ((t.d.n : Int) != 4) = true := by simp; omega
    clear h1
    go_wp2_with fail
    go_ret
    exact ⟨ret_int HE.out.symm, HB.out⟩
  replace HE : Hid (C = _) := HE.out.trans (if_pos h1)
  have h0' : ((t.d.n : Int) != 4) = false := by simp; omega
  clear h1
  go_wp2_with fail
  refine (specLf_any t.g a3 a4 c3 c4 _ hSg hSg' hby (HA.out.2.2.1.below HB.out)).mono ?_
  rintro e w3 ⟨rfl, hb⟩
  replace HB : Hid (Below w.heap.size w w3) := below_then HB.out hb
  replace x0 := cell_below x0 hb
  replace x6 := cell_below x6 hb
  replace x7 := cell_below x7 hb
  clear hb x2 x4 x5
  by_cases h2 : lgC t.g = 0
  case neg =>
    replace HE : Hid (C = lgC t.g) := HE.out.trans (if_neg h2)
    generalize lgC t.g = c at *
    have h0' : (c != 0) = true := by simp [h2]
    clear h2
    go_wp2_with fail
    go_ret
    exact ⟨ret_int HE.out.symm, HB.out⟩
  replace HE : Hid (C = ohF t.nx t.on t.oF t.hn t.hK t.hV) := HE.out.trans (if_pos h2)
  rw [h2]
  clear h2
  go_wp2_with fail
  refine (l12Held_any t.nx t.hn t.hK t.hV a5 c5 t.on t.oF a6 c6 B _ (inB_iff.1 k1) hSh hSo x0 x6 x7 (HA.out.2.2.2.1.below HB.out) (HA.out.2.2.2.2.below HB.out)).mono ?_
  rintro e w4 ⟨rfl, hb⟩
  go_wp2_with fail
  go_ret
  exact ⟨ret_int HE.out.symm, below_then HB.out hb⟩
theorem openStore {H : Type} {enc : TypeId × Value → H} {W : World} {r : Reach} {b0 : Nat} {v : Value} {d : DataW H} {p : List MemPlace}
    (hv : Value.okWide Tryz.prog W r b0 33 v) (h : DataW.Trod enc Tryz.prog W 0 (fun _ => true) true 33 v d p) :
    ∃ (t : Sto) (a0 : Option Addr) (c0 : Nat) (a1 : Option Addr) (c1 : Nat) (a2 : Option Addr) (c2 : Nat) (a3 : Option Addr) (c3 : Nat) (a4 : Option Addr) (c4 : Nat) (a5 : Option Addr) (c5 : Nat) (a6 : Option Addr) (c6 : Nat), v = .agg #[.int .i64 t.nx, .slice a0 t.pn c0, .slice a1 t.d.n c1, .slice a2 t.d.m c2, .slice a3 t.g.n1 c3, .slice a4 t.g.n2 c4, .slice a5 t.hn c5, .slice a6 t.on c6] ∧ BigSt t ∧ LogByt t.g ∧ DiskByt t.d ∧ InSt W a0 a1 a2 a3 a4 a5 a6 t := by
  obtain ⟨cs, rfl, hsz⟩ := okWide_struct Tryz.underlying33 hv
  obtain ⟨fuel, hf0⟩ := h
  obtain ⟨xs, n, _, _, hl, hlen, hf⟩ := DataW.trod_struct Tryz.underlying33 hf0
  rw [cellsStore] at hsz
  obtain ⟨l⟩ := cs
  match l, hsz, xs, hlen with
  | [v0, v1, v2, v3, v4, v5, v6, v7], _, [y0, y1, y2, y3, y4, y5], _ =>
    have g0 := hf 0 _ rfl
    have g1 := hf 1 _ rfl
    have g2 := hf 2 _ rfl
    have g3 := hf 3 _ rfl
    have g4 := hf 4 _ rfl
    have g5 := hf 5 _ rfl
    simp [Value.cells, cellsI1, cellsPageS, cellsHeldS, cellsIntS, cells62, cellsLog] at g0 g1 g2 g3 g4 g5
    obtain ⟨z0, f0, _, _⟩ := DataW.trod_int Tryz.underlying2 g0
    obtain ⟨p0, n0, r0, T0, f1, k0, l0, m0⟩ := openPgs g1
    obtain ⟨xs2, _, _, _, _, hlen2, hd2⟩ := DataW.trod_struct Tryz.underlying26 g2
    obtain ⟨xs3, _, _, _, _, hlen3, hd3⟩ := DataW.trod_struct Tryz.underlying29 g3
    obtain ⟨p5, n5, r5, K5, V5, f6, k5, l5, m5⟩ := openHeldS g4
    obtain ⟨p6, n6, r6, Z6, f7, k6, l6, m6⟩ := openIntS g5
    match xs2, hlen2, xs3, hlen3 with
    | [u0, u1], _, [u2, u3], _ =>
      have j0 := hd2 0 _ rfl
      have j1 := hd2 1 _ rfl
      have j2 := hd3 0 _ rfl
      have j3 := hd3 1 _ rfl
      simp [cellsByteSS, cellsLooseS, cells22] at j0 j1 j2 j3
      obtain ⟨p1, n1, r1, L1, Z1, f2, i1, i2, i3, i4⟩ := openPages j0
      obtain ⟨p2, n2, r2, P2, T2, L2, Z2, f3, i5, i6, i7, i8⟩ := openLooses j1
      obtain ⟨p3, n3, r3, Z3, f4, o1, o2, o3, -⟩ := openBytes j2
      obtain ⟨p4, n4, r4, Z4, f5, o4, o5, o6, -⟩ := openBytes j3
      simp at f0 f1 f2 f3 f4 f5 f6 f7
      subst f0 f1 f2 f3 f4 f5 f6 f7
      exact ⟨⟨z0, n0, T0, ⟨n1, L1, Z1, n2, P2, T2, L2, Z2⟩, ⟨n3, Z3, n4, Z4⟩, n5, K5, V5, n6, Z6⟩, p0, r0, p1, r1, p2, r2, p3, r3, p4, r4, p5, r5, p6, r6, rfl, ⟨⟨k0, l0⟩, ⟨i1, i2, i5, i6⟩, ⟨o1, o4⟩, l5, l6⟩, ⟨o2, o5⟩, ⟨i3, i7⟩, m0, ⟨i4, i8⟩, ⟨o3, o6⟩, m5, m6⟩
end Go.Proofs.YtnplheilojhpmaaGreat
