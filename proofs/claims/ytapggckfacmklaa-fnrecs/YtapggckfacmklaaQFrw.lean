/- FnRecs: the walk. -/
import Derived.Test.YtapggckfacmklaaQFrc
namespace Go.Proofs.Ytapggckfacmklaa
open Go.RowKit Go.Deep
set_option linter.unusedVariables false
set_option linter.unusedSimpArgs false
set_option maxRecDepth 20000

theorem lwBig_any (a : Option Addr) (k cap : Nat) (w : World) : Calls Try.prog 5 #[.slice a k cap] w fun e w' => e = .returned (.bool (decide ((1048576 : Int) < (k : Int)))) ∧ w' = w := by
  go_enter Try.func5, Try.ntmps5
  go_wp2
  go_ret
  exact ⟨rfl, rfl⟩
theorem C8.below9 {w w' : World} {b o : Nat} {r : Rc} (h : C8 w b o r) (hb : Below w.heap.size w w') : C8 w' b o r := h.block (hb.block b (Go.block_lt_of_cell h.1))
set_option maxHeartbeats 32000000 in
theorem fnRecs_small (kk : Nat) (z : Nat → Int) (a : Option Addr) (cap : Nat) (w : World) (hbig : kk ≤ 1048576) (hz : Byt kk z) (HA0 : BytesAt w a kk z) :
    Calls Try.prog 4 #[.slice a kk cap] w fun e w' => e = .returned (.bool true) ∧ Below w.heap.size w w' := by
  have HDC : Hid (Calls Try.prog 12 #[.slice a kk cap] w (DrawApA w)) := drawAp_any a kk cap z w hbig hz HA0
  have hbg : decide ((1048576 : Int) < (kk : Int)) = false := by simp; omega
  clear hz HA0
  go_enter Try.func4, Try.ntmps4
  go_wp2_with (go_at_call 5; refine (lwBig_any _ _ _ _).mono ?_; rintro e w' ⟨rfl, hw⟩; have hw1 := hw.symm; clear hw; subst hw1; rw [hbg])
  refine Calls.mono HDC.out ?_
  rintro e w1 ⟨a1, a2, n1, c1, n2, c2, z1, z2, r, rfl, k1, k2, b1, b2, m1, m2, A1, A2, hb1⟩
  unfold rV
  obtain ⟨L, hL⟩ : ∃ L : Lo, L = ⟨n1, z1, n2, z2⟩ := ⟨_, rfl⟩
  have hb0 : Below w1.heap.size w1 ((w1.alloc (.cells #[.slice a1 n1 c1, .slice a2 n2 c2] 25)).alloc (.cells #[.int .i64 r.k, .int .i64 r.t, .int .i64 r.key, .bool r.hd, .int .i64 r.old, .bool r.hs, .int .i64 r.nw, .int .i64 r.bk] 37)) := ((Below.refl _ _).alloc (Nat.le_refl _) _).alloc (by simp) _
  have HB1 : Hid (Below w.heap.size w ((w1.alloc (.cells #[.slice a1 n1 c1, .slice a2 n2 c2] 25)).alloc (.cells #[.int .i64 r.k, .int .i64 r.t, .int .i64 r.key, .bool r.hd, .int .i64 r.old, .bool r.hs, .int .i64 r.nw, .int .i64 r.bk] 37))) := below_then hb1 hb0
  have HL1 : Hid (LogAt ((w1.alloc (.cells #[.slice a1 n1 c1, .slice a2 n2 c2] 25)).alloc (.cells #[.int .i64 r.k, .int .i64 r.t, .int .i64 r.key, .bool r.hd, .int .i64 r.old, .bool r.hs, .int .i64 r.nw, .int .i64 r.bk] 37)) a1 a2 L) := by
    have h9 : LogAt w1 a1 a2 L := by rw [hL]; exact ⟨A1, A2⟩
    exact h9.below hb0
  have hby : LogByt L := by rw [hL]; exact ⟨b1, b2⟩
  have BL := (Box2.new w1 (.slice a1 n1 c1) (.slice a2 n2 c2) 25).alloc (.cells #[.int .i64 r.k, .int .i64 r.t, .int .i64 r.key, .bool r.hd, .int .i64 r.old, .bool r.hs, .int .i64 r.nw, .int .i64 r.bk] 37)
  have BE : C8 ((w1.alloc (.cells #[.slice a1 n1 c1, .slice a2 n2 c2] 25)).alloc (.cells #[.int .i64 r.k, .int .i64 r.t, .int .i64 r.key, .bool r.hd, .int .i64 r.old, .bool r.hs, .int .i64 r.nw, .int .i64 r.bk] 37)) (w1.heap.size + 1) 0 r := by
    have h9 : C8 ((w1.alloc (.cells #[.slice a1 n1 c1, .slice a2 n2 c2] 25)).alloc (.cells #[.int .i64 r.k, .int .i64 r.t, .int .i64 r.key, .bool r.hd, .int .i64 r.old, .bool r.hs, .int .i64 r.nw, .int .i64 r.bk] 37)) (w1.alloc (.cells #[.slice a1 n1 c1, .slice a2 n2 c2] 25)).heap.size 0 r := by simp [C8, go_sem]
    rw [World.size_alloc] at h9
    exact h9
  have q1 : L.n1 = n1 := by rw [hL]
  have q2 : L.n2 = n2 := by rw [hL]
  have hp1 : L.n1 ≤ 1048576 := by omega
  have hp2 : L.n2 ≤ 1048576 := by omega
  clear HDC hbg hbig hb1 A1 A2 b1 b2 hL hb0
  by_cases hC : apC L (rfR r) = 0
  · obtain ⟨hg, hr, hf⟩ := apC_zero hC
    obtain ⟨f1, f2, f3, f4, f5⟩ := more_facts hg hr hf
    obtain ⟨g1, g2⟩ := lgC_zero hg
    obtain ⟨N, hN⟩ : ∃ N, N = cnt (aZ L) (L.n1 + L.n2) := ⟨_, rfl⟩
    obtain ⟨m, hm⟩ : ∃ m, m = N + 1 := ⟨_, rfl⟩
    obtain ⟨R, hR⟩ : ∃ R, R = zRs (aZ (moreL L r)) := ⟨_, rfl⟩
    rw [← hN] at f2 f3 f4 f5 g2
    rw [← hm] at f2
    rw [← hR] at f4 f5
    have hby2 := more_byt (r := r) hby
    have HAP : Hid (∀ u, LogAt u a1 a2 L → Calls Try.prog 13 #[.agg #[.slice a1 n1 c1, .slice a2 n2 c2], .agg #[.int .i64 r.k, .int .i64 r.t, .int .i64 r.key, .bool r.hd, .int .i64 r.old, .bool r.hs, .int .i64 r.nw, .int .i64 r.bk]] u (fun e w' => ∃ r1 d1 r2 d2, e = .returned (.agg #[.int .i64 0, .int .i64 (m : Int), .slice r1 n1 d1, .slice r2 (n2 + 13) d2]) ∧ Below u.heap.size u w' ∧ LogAt w' r1 r2 (moreL L r))) := fun u h => by rw [← q1, ← q2]; exact append_ok hg hr hf (by omega) a1 a2 c1 c2 u hp1 hp2 hby h
    have HRN : Hid (∀ r1 r2 d1 d2 u, LogAt u r1 r2 (moreL L r) → Calls Try.prog 9 #[.agg #[.slice r1 n1 d1, .slice r2 (n2 + 13) d2]] u (fun e w' => ∃ us sa sc, e = .returned (.agg #[.int .i64 0, .int .i64 us, .slice sa m sc]) ∧ Below u.heap.size u w' ∧ RecsAt w' sa m R)) := fun r1 r2 d1 d2 u h => by rw [← q1, ← q2]; exact recs_ok_i f1 f2 (R := R) (fun i _ => by rw [hR]) r1 r2 d1 d2 u hp1 (by show L.n2 + 13 ≤ _; omega) hby2 h
    have HRW : Hid (∀ u, LogAt u a1 a2 L → Calls Try.prog 9 #[.agg #[.slice a1 n1 c1, .slice a2 n2 c2]] u (fun e w' => ∃ us sa sc, e = .returned (.agg #[.int .i64 0, .int .i64 us, .slice sa N sc]) ∧ Below u.heap.size u w' ∧ RecsAt w' sa N R)) := fun u h => by rw [← q1, ← q2]; exact recs_ok_i hg hN.symm (R := R) (fun i hi => (f4 i hi).symm) a1 a2 c1 c2 u hp1 hp2 hby h
    have HPK : Hid (∀ u, Calls Try.prog 15 #[.agg #[.int .i64 r.k, .int .i64 r.t, .int .i64 r.key, .bool r.hd, .int .i64 r.old, .bool r.hs, .int .i64 r.nw, .int .i64 r.bk]] u (fun e w' => ∃ pa pc, e = .returned (.agg #[.int .i64 0, .slice pa 13 pc]) ∧ Below u.heap.size u w' ∧ BytesAt w' pa 13 (zOf (rbR r)) ∧ 13 ≤ pc)) := fun u => pack_ok hr u
    have HUP : Hid (∀ pa pc u, 13 ≤ pc → BytesAt u pa 13 (zOf (rbR r)) → Calls Try.prog 10 #[.slice pa 13 pc] u (fun e w' => ∃ ra rc, e = .returned (.agg #[.int .i64 0, .int .i64 13, .slice ra 1 rc]) ∧ Below u.heap.size u w' ∧ RecsAt w' ra 1 (fun _ => r))) := fun pa pc u h1 h2 => unpack_one hr pa pc u h1 h2
    have HFL : Hid (∀ r1 r2 d1 d2 u, LogAt u r1 r2 (moreL L r) → Calls Try.prog 16 #[.agg #[.slice r1 n1 d1, .slice r2 (n2 + 13) d2]] u (fun e w' => ∃ q r1 d1 r2 d2, e = .returned (.agg #[.int .i64 0, .int .i64 (m : Int), .slice r1 q d1, .slice r2 0 d2]) ∧ Below u.heap.size u w')) := fun r1 r2 d1 d2 u h => by rw [← q1, ← q2]; exact flush_ok f1 f2 r1 r2 d1 d2 u hp1 (by show L.n2 + 13 ≤ _; omega) hby2 h
    have HLF : Hid (∀ r1 r2 d1 d2 u, LogAt u r1 r2 (moreL L r) → Calls Try.prog 17 #[.agg #[.slice r1 n1 d1, .slice r2 (n2 + 13) d2]] u (fun e w' => e = .returned (.int .i64 0) ∧ Below u.heap.size u w')) := fun r1 r2 d1 d2 u h => by rw [← q1, ← q2, ← f1]; exact implLf_any (moreL L r) r1 r2 d1 d2 u hp1 (by show L.n2 + 13 ≤ _; omega) hby2 h
    have hmb : N ≤ 4000 := by omega
    have HRL : Hid (R N = r) := f5
    have HM : Hid (m = N + 1) := hm
    clear hm
    clear hC hby hby2 hp1 hp2 f1 f2 f3 f4 f5 hN hR g1 g2 hg hr hf q1 q2 m1 m2 k1 k2
    generalize n2 + 13 = nB at *
    go_wp2_with fail
    refine (HAP.out _ HL1.out).mono ?_
    rintro e w2 ⟨r1, d1, r2, d2, rfl, hb2, hlr⟩
    replace HRN : Hid (∀ u, LogAt u r1 r2 (moreL L r) → Calls Try.prog 9 #[.agg #[.slice r1 n1 d1, .slice r2 nB d2]] u (fun e w' => ∃ us sa sc, e = .returned (.agg #[.int .i64 0, .int .i64 us, .slice sa m sc]) ∧ Below u.heap.size u w' ∧ RecsAt w' sa m R)) := HRN.out r1 r2 d1 d2
    replace HFL : Hid (∀ u, LogAt u r1 r2 (moreL L r) → Calls Try.prog 16 #[.agg #[.slice r1 n1 d1, .slice r2 nB d2]] u (fun e w' => ∃ q r1 d1 r2 d2, e = .returned (.agg #[.int .i64 0, .int .i64 (m : Int), .slice r1 q d1, .slice r2 0 d2]) ∧ Below u.heap.size u w')) := HFL.out r1 r2 d1 d2
    replace HLF : Hid (∀ u, LogAt u r1 r2 (moreL L r) → Calls Try.prog 17 #[.agg #[.slice r1 n1 d1, .slice r2 nB d2]] u (fun e w' => e = .returned (.int .i64 0) ∧ Below u.heap.size u w')) := HLF.out r1 r2 d1 d2
    have HB2 : Hid (Below w.heap.size w w2) := below_then HB1.out hb2
    have HL2 : Hid (LogAt w2 a1 a2 L) := HL1.out.below hb2
    have HT2 : Hid (LogAt w2 r1 r2 (moreL L r)) := hlr
    replace BL := BL.below hb2
    replace BE := BE.below9 hb2
    have BQ := Box4.new w2 (.int .i64 0) (.int .i64 (m : Int)) (.slice r1 n1 d1) (.slice r2 nB d2) 29
    obtain ⟨P, hP⟩ : ∃ P, P = w1.heap.size := ⟨_, rfl⟩
    rw [← hP] at BL BE ⊢
    obtain ⟨E, hE⟩ : ∃ E, E = P + 1 := ⟨_, rfl⟩
    rw [← hE] at BE ⊢
    clear hb2 hlr HB1 HL1 HAP hP hE
    go_wp2_with fail
    refine (HRN.out _ (HT2.out.below (below_new _ _))).mono ?_
    rintro e w3 ⟨uN, rn, cn, rfl, hb3, hrn⟩
    have hbb := below_then (below_new w2 (.cells #[.int .i64 0, .int .i64 (m : Int), .slice r1 n1 d1, .slice r2 nB d2] 29)) hb3
    have HB3 : Hid (Below w.heap.size w w3) := below_then HB2.out hbb
    have HL3 : Hid (LogAt w3 a1 a2 L) := HL2.out.below hbb
    have HT3 : Hid (LogAt w3 r1 r2 (moreL L r)) := HT2.out.below hbb
    have HN3 : Hid (RecsAt w3 rn m R) := hrn
    replace BL := BL.below hbb
    replace BE := BE.below9 hbb
    replace BQ := BQ.below hb3
    obtain ⟨Q, hQ⟩ : ∃ Q, Q = w2.heap.size := ⟨_, rfl⟩
    rw [← hQ] at BQ ⊢
    clear hb3 hrn HB2 HL2 HT2 HRN hQ hbb
    have BV := Box3.new w3 (.int .i64 0) (.int .i64 uN) (.slice rn m cn) 33
    obtain ⟨P0, P1⟩ := BL.alloc (.cells #[.int .i64 0, .int .i64 uN, .slice rn m cn] 33)
    go_wp2_with fail
    refine (HRW.out _ (HL3.out.below (below_new _ _))).mono ?_
    rintro e w4 ⟨uW, rw, cw, rfl, hb4, hrw⟩
    clear P0 P1
    have hbb := below_then (below_new w3 (.cells #[.int .i64 0, .int .i64 uN, .slice rn m cn] 33)) hb4
    have HB4 : Hid (Below w.heap.size w w4) := below_then HB3.out hbb
    have HT4 : Hid (LogAt w4 r1 r2 (moreL L r)) := HT3.out.below hbb
    have HN4 : Hid (RecsAt w4 rn m R) := HN3.out.below hbb
    have HW4 : Hid (RecsAt w4 rw N R) := hrw
    replace BE := BE.below9 hbb
    replace BQ := BQ.below hbb
    replace BV := BV.below hb4
    obtain ⟨V, hV⟩ : ∃ V, V = w3.heap.size := ⟨_, rfl⟩
    rw [← hV] at BV ⊢
    clear hb4 hrw HB3 HL3 HT3 HN3 HRW hV hbb BL
    have BU := Box3.new w4 (.int .i64 0) (.int .i64 uW) (.slice rw N cw) 33
    obtain ⟨R0, R1, R2, R3, R4, R5, R6, R7⟩ := (BE.below9 (below_new w4 (.cells #[.int .i64 0, .int .i64 uW, .slice rw N cw] 33))).at0
    go_wp2_with fail
    refine (HPK.out _).mono ?_
    rintro e w5 ⟨pa, pc, rfl, hb5, hby5, hpc⟩
    clear R0 R1 R2 R3 R4 R5 R6 R7
    have hbb := below_then (below_new w4 (.cells #[.int .i64 0, .int .i64 uW, .slice rw N cw] 33)) hb5
    have HB5 : Hid (Below w.heap.size w w5) := below_then HB4.out hbb
    have HT5 : Hid (LogAt w5 r1 r2 (moreL L r)) := HT4.out.below hbb
    have HN5 : Hid (RecsAt w5 rn m R) := HN4.out.below hbb
    have HW5 : Hid (RecsAt w5 rw N R) := HW4.out.below hbb
    have HY5 : Hid (BytesAt w5 pa 13 (zOf (rbR r))) := hby5
    have HPC : Hid (13 ≤ pc) := hpc
    replace BE := BE.below9 hbb
    replace BQ := BQ.below hbb
    replace BV := BV.below hbb
    replace BU := BU.below hb5
    obtain ⟨U, hU⟩ : ∃ U, U = w4.heap.size := ⟨_, rfl⟩
    rw [← hU] at BU ⊢
    clear hb5 hby5 hpc HB4 HT4 HN4 HW4 HPK hU hbb
    have BK := Box2.new w5 (.int .i64 0) (.slice pa 13 pc) 42
    go_wp2_with fail
    refine (HUP.out pa pc _ HPC.out (HY5.out.below (below_new _ _))).mono ?_
    rintro e w6 ⟨ru, cu, rfl, hb6, hru⟩
    have hbb := below_then (below_new w5 (.cells #[.int .i64 0, .slice pa 13 pc] 42)) hb6
    have HB6 : Hid (Below w.heap.size w w6) := below_then HB5.out hbb
    have HT6 : Hid (LogAt w6 r1 r2 (moreL L r)) := HT5.out.below hbb
    have HN6 : Hid (RecsAt w6 rn m R) := HN5.out.below hbb
    have HW6 : Hid (RecsAt w6 rw N R) := HW5.out.below hbb
    have HU6 : Hid (RecsAt w6 ru 1 (fun _ => r)) := hru
    replace BE := BE.below9 hbb
    replace BQ := BQ.below hbb
    replace BV := BV.below hbb
    replace BU := BU.below hbb
    replace BK := BK.below hb6
    obtain ⟨K, hK9⟩ : ∃ K, K = w5.heap.size := ⟨_, rfl⟩
    rw [← hK9] at BK ⊢
    clear hb6 hru HB5 HT5 HN5 HW5 HY5 HPC HUP hK9 hbb
    have BJ := Box3.new w6 (.int .i64 0) (.int .i64 13) (.slice ru 1 cu) 33
    obtain ⟨Q0, Q1, Q2, Q3⟩ := BQ.alloc (.cells #[.int .i64 0, .int .i64 13, .slice ru 1 cu] 33)
    go_wp2_with fail
    refine (HFL.out _ (HT6.out.below (below_new _ _))).mono ?_
    rintro e w7 ⟨q9, f1, e1, f2, e2, rfl, hb7⟩
    clear Q0 Q1 Q2 Q3
    have hbb := below_then (below_new w6 (.cells #[.int .i64 0, .int .i64 13, .slice ru 1 cu] 33)) hb7
    have HB7 : Hid (Below w.heap.size w w7) := below_then HB6.out hbb
    have HT7 : Hid (LogAt w7 r1 r2 (moreL L r)) := HT6.out.below hbb
    have HN7 : Hid (RecsAt w7 rn m R) := HN6.out.below hbb
    have HW7 : Hid (RecsAt w7 rw N R) := HW6.out.below hbb
    have HU7 : Hid (RecsAt w7 ru 1 (fun _ => r)) := HU6.out.below hbb
    replace BE := BE.below9 hbb
    replace BQ := BQ.below hbb
    replace BV := BV.below hbb
    replace BU := BU.below hbb
    replace BK := BK.below hbb
    replace BJ := BJ.below hb7
    obtain ⟨J, hJ⟩ : ∃ J, J = w6.heap.size := ⟨_, rfl⟩
    rw [← hJ] at BJ ⊢
    clear hb7 HB6 HT6 HN6 HW6 HU6 HFL hJ hbb
    go_upto_region 12 with fail
    obtain ⟨W8, hW8⟩ : ∃ y, y = w7.alloc (.cells #[.int .i64 0, .int .i64 (m : Int), .slice f1 q9 e1, .slice f2 0 e2] 29) := ⟨_, rfl⟩
    have hb8 : Below w7.heap.size w7 W8 := by rw [hW8]; exact below_new _ _
    have BF : Box4 W8 w7.heap.size (.int .i64 0) (.int .i64 (m : Int)) (.slice f1 q9 e1) (.slice f2 0 e2) := by rw [hW8]; exact Box4.new _ _ _ _ _ _
    have HB8 : Hid (Below w.heap.size w W8) := below_then HB7.out hb8
    have HT8 : Hid (LogAt W8 r1 r2 (moreL L r)) := HT7.out.below hb8
    have HW8 : Hid (RecsAt W8 rw N R) := HW7.out.below hb8
    obtain ⟨R0, R1, R2, R3, R4, R5, R6, R7⟩ := (BE.below9 hb8).at0
    have HBQ : Hid (Box4 W8 Q (.int .i64 0) (.int .i64 (m : Int)) (.slice r1 n1 d1) (.slice r2 nB d2)) := BQ.below hb8
    have HBU : Hid (Box3 W8 U (.int .i64 0) (.int .i64 uW) (.slice rw N cw)) := BU.below hb8
    have BV8 := BV.below hb8
    obtain ⟨K0, K1⟩ := BK.below hb8
    have BJ8 := BJ.below hb8
    have hm := HM.out
    obtain ⟨xb, xo, hx, -, hxc⟩ := (HN7.out.below hb8).resolve_left (by omega)
    obtain ⟨yb, yo, hy, -, hyc⟩ := (HU7.out.below hb8).resolve_left (by omega)
    subst hx
    subst hy
    have HXC : Hid (∀ i, i < m → C8 W8 xb (xo + i * 8) (R i)) := hxc
    have HBV : Hid (Box3 W8 V (.int .i64 0) (.int .i64 uN) (.slice (some ⟨xb, xo, none⟩) m cn)) := BV8
    have hx9 := hxc N (by omega)
    rw [HRL.out] at hx9
    obtain ⟨x0, x1, x2, x3, x4, x5, x6, x7⟩ := hx9
    have hy9 := hyc 0 (by omega)
    rw [Nat.zero_mul, Nat.add_zero] at hy9
    obtain ⟨y0, y1, y2, y3, y4, y5, y6, y7⟩ := hy9
    obtain ⟨V0, V1, V2⟩ := BV8
    obtain ⟨J0, J1, J2⟩ := BJ8
    obtain ⟨U0, U1, U2⟩ := HBU.out
    obtain ⟨Q0, Q1, Q2, Q3⟩ := HBQ.out
    rw [← hW8]
    have HBF : Hid (Box4 W8 w7.heap.size (.int .i64 0) (.int .i64 (m : Int)) (.slice f1 q9 e1) (.slice f2 0 e2)) := BF
    generalize w7.heap.size = Fb at *
    clear hW8 hb8 BE BQ BU BV BK BJ BF HB7 HT7 HN7 HW7 HU7 hxc hyc
    have hwN : IntKind.i64.wrap ((N : Int) + 1) = (m : Int) := by rw [IntKind.wrap_i64]; omega
    have hwM : IntKind.i64.wrap ((m : Int) - 1) = (N : Int) := by rw [IntKind.wrap_i64]; omega
    have hNm : (N : Int) < (m : Int) := by omega
    have hN0 : (0 : Int) ≤ (N : Int) := by omega
    clear hm
    refine wp_region_E 999 (S := fun u => Below W8.heap.size W8 u) (by kernel_rfl) ((Below.refl _ _).drew) (fun hS => ?_)
    obtain ⟨u0, hu0⟩ : ∃ y, y = W8.drew := ⟨_, rfl⟩
    rw [← hu0] at hS ⊢
    clear hu0
    refine wpAnyE_takeD (L := 999) (i := 0) (v := .pointer (some ⟨Q, 2, none⟩)) (some 45) rfl rfl (by kernel_rfl) (by kernel_rfl) (by kernel_rfl) (by kernel_rfl) (fun _ _ _ h => h) (Or.inl ⟨by kernel_rfl, by intro u hSu; go_simp⟩) hS ?_
    try simp only [Act.put, List.setIfInBounds_toArray, List.set_cons_zero, List.set_cons_succ]
    refine wpAnyE_takeD (L := 999) (i := 1) (v := .agg #[.slice r1 n1 d1, .slice r2 nB d2]) (some 46) rfl rfl (by kernel_rfl) (by kernel_rfl) (by kernel_rfl) (by kernel_rfl) (fun _ _ _ h => h) (Or.inl ⟨by kernel_rfl, by intro u hSu; have h0 := cell_below Q2 hSu; have h1 := cell_below Q3 hSu; go_simp⟩) hS ?_
    try simp only [Act.put, List.setIfInBounds_toArray, List.set_cons_zero, List.set_cons_succ]
    refine wpAnyE_ready (rs := [2]) (by kernel_rfl) (by simp) ?_
    refine AllReadyE.cons rfl (fun K9 hK => ?_) AllReadyE.nil
    go_simp
    refine (HLF.out _ (HT8.out.below hS)).mono ?_
    rintro e u1 ⟨rfl, hbu⟩
    refine hK.out _ _ (below_then hS hbu) (fun hS9 => ?_)
    try simp only [Act.put, List.setIfInBounds_toArray, List.set_cons_zero, List.set_cons_succ]
    clear hK K9 hS hbu
    have hS := hS9
    clear hS9
    refine wpAnyE_takeD (L := 999) (i := 3) (v := .bool false) (some 48) rfl rfl (by kernel_rfl) (by kernel_rfl) (by kernel_rfl) (by kernel_rfl) (fun _ _ _ h => h) (Or.inl ⟨by kernel_rfl, by intro u hSu; go_simp⟩) hS ?_
    try simp only [Act.put, List.setIfInBounds_toArray, List.set_cons_zero, List.set_cons_succ]
    refine wpAnyE_takeD (L := 999) (i := 4) (v := .bool false) (some 49) rfl rfl (by kernel_rfl) (by kernel_rfl) (by kernel_rfl) (by kernel_rfl) (fun _ _ _ h => h) (Or.inl ⟨by kernel_rfl, by intro u hSu; go_simp⟩) hS ?_
    try simp only [Act.put, List.setIfInBounds_toArray, List.set_cons_zero, List.set_cons_succ]
    refine wpAnyE_takeD (L := 999) (i := 5) (v := .pointer (some ⟨V, 0, none⟩)) (some 50) rfl rfl (by kernel_rfl) (by kernel_rfl) (by kernel_rfl) (by kernel_rfl) (fun _ _ _ h => h) (Or.inl ⟨by kernel_rfl, by intro u hSu; go_simp⟩) hS ?_
    try simp only [Act.put, List.setIfInBounds_toArray, List.set_cons_zero, List.set_cons_succ]
    refine wpAnyE_takeD (L := 999) (i := 6) (v := .int .i64 0) (some 51) rfl rfl (by kernel_rfl) (by kernel_rfl) (by kernel_rfl) (by kernel_rfl) (fun _ _ _ h => h) (Or.inl ⟨by kernel_rfl, by intro u hSu; have h0 := cell_below V0 hSu; go_simp⟩) hS ?_
    try simp only [Act.put, List.setIfInBounds_toArray, List.set_cons_zero, List.set_cons_succ]
    refine wpAnyE_takeD (L := 999) (i := 7) (v := .bool false) (some 52) rfl rfl (by kernel_rfl) (by kernel_rfl) (by kernel_rfl) (by kernel_rfl) (fun _ _ _ h => h) (Or.inl ⟨by kernel_rfl, by intro u hSu; go_simp⟩) hS ?_
    try simp only [Act.put, List.setIfInBounds_toArray, List.set_cons_zero, List.set_cons_succ]
    refine wpAnyE_takeD (L := 999) (i := 8) (v := .bool false) (some 53) rfl rfl (by kernel_rfl) (by kernel_rfl) (by kernel_rfl) (by kernel_rfl) (fun _ _ _ h => h) (Or.inl ⟨by kernel_rfl, by intro u hSu; go_simp⟩) hS ?_
    try simp only [Act.put, List.setIfInBounds_toArray, List.set_cons_zero, List.set_cons_succ]
    refine wpAnyE_takeD (L := 999) (i := 9) (v := .bool false) (some 54) rfl rfl (by kernel_rfl) (by kernel_rfl) (by kernel_rfl) (by kernel_rfl) (fun _ _ _ h => h) (Or.inl ⟨by kernel_rfl, by intro u hSu; go_simp⟩) hS ?_
    try simp only [Act.put, List.setIfInBounds_toArray, List.set_cons_zero, List.set_cons_succ]
    refine wpAnyE_takeD (L := 999) (i := 10) (v := .pointer (some ⟨V, 2, none⟩)) (some 55) rfl rfl (by kernel_rfl) (by kernel_rfl) (by kernel_rfl) (by kernel_rfl) (fun _ _ _ h => h) (Or.inl ⟨by kernel_rfl, by intro u hSu; go_simp⟩) hS ?_
    try simp only [Act.put, List.setIfInBounds_toArray, List.set_cons_zero, List.set_cons_succ]
    refine wpAnyE_takeD (L := 999) (i := 11) (v := .slice (some ⟨xb, xo, none⟩) m cn) (some 56) rfl rfl (by kernel_rfl) (by kernel_rfl) (by kernel_rfl) (by kernel_rfl) (fun _ _ _ h => h) (Or.inl ⟨by kernel_rfl, by intro u hSu; have h0 := cell_below V2 hSu; go_simp⟩) hS ?_
    try simp only [Act.put, List.setIfInBounds_toArray, List.set_cons_zero, List.set_cons_succ]
    refine wpAnyE_takeD (L := 999) (i := 12) (v := .int .i64 (m : Int)) (some 57) rfl rfl (by kernel_rfl) (by kernel_rfl) (by kernel_rfl) (by kernel_rfl) (fun _ _ _ h => h) (Or.inl ⟨by kernel_rfl, by intro u hSu; go_simp⟩) hS ?_
    try simp only [Act.put, List.setIfInBounds_toArray, List.set_cons_zero, List.set_cons_succ]
    refine wpAnyE_takeD (L := 999) (i := 13) (v := .pointer (some ⟨Q, 1, none⟩)) (some 58) rfl rfl (by kernel_rfl) (by kernel_rfl) (by kernel_rfl) (by kernel_rfl) (fun _ _ _ h => h) (Or.inl ⟨by kernel_rfl, by intro u hSu; go_simp⟩) hS ?_
    try simp only [Act.put, List.setIfInBounds_toArray, List.set_cons_zero, List.set_cons_succ]
    refine wpAnyE_takeD (L := 999) (i := 14) (v := .int .i64 (m : Int)) (some 59) rfl rfl (by kernel_rfl) (by kernel_rfl) (by kernel_rfl) (by kernel_rfl) (fun _ _ _ h => h) (Or.inl ⟨by kernel_rfl, by intro u hSu; have h0 := cell_below Q1 hSu; go_simp⟩) hS ?_
    try simp only [Act.put, List.setIfInBounds_toArray, List.set_cons_zero, List.set_cons_succ]
    refine wpAnyE_takeD (L := 999) (i := 15) (v := .bool false) (some 60) rfl rfl (by kernel_rfl) (by kernel_rfl) (by kernel_rfl) (by kernel_rfl) (fun _ _ _ h => h) (Or.inl ⟨by kernel_rfl, by intro u hSu; go_simp⟩) hS ?_
    try simp only [Act.put, List.setIfInBounds_toArray, List.set_cons_zero, List.set_cons_succ]
    refine wpAnyE_takeD (L := 999) (i := 16) (v := .bool false) (some 61) rfl rfl (by kernel_rfl) (by kernel_rfl) (by kernel_rfl) (by kernel_rfl) (fun _ _ _ h => h) (Or.inl ⟨by kernel_rfl, by intro u hSu; go_simp⟩) hS ?_
    try simp only [Act.put, List.setIfInBounds_toArray, List.set_cons_zero, List.set_cons_succ]
    refine wpAnyE_takeD (L := 999) (i := 17) (v := .bool false) (some 62) rfl rfl (by kernel_rfl) (by kernel_rfl) (by kernel_rfl) (by kernel_rfl) (fun _ _ _ h => h) (Or.inl ⟨by kernel_rfl, by intro u hSu; go_simp⟩) hS ?_
    try simp only [Act.put, List.setIfInBounds_toArray, List.set_cons_zero, List.set_cons_succ]
    refine wpAnyE_takeD (L := 999) (i := 18) (v := .pointer (some ⟨V, 2, none⟩)) (some 63) rfl rfl (by kernel_rfl) (by kernel_rfl) (by kernel_rfl) (by kernel_rfl) (fun _ _ _ h => h) (Or.inl ⟨by kernel_rfl, by intro u hSu; go_simp⟩) hS ?_
    try simp only [Act.put, List.setIfInBounds_toArray, List.set_cons_zero, List.set_cons_succ]
    refine wpAnyE_takeD (L := 999) (i := 19) (v := .slice (some ⟨xb, xo, none⟩) m cn) (some 64) rfl rfl (by kernel_rfl) (by kernel_rfl) (by kernel_rfl) (by kernel_rfl) (fun _ _ _ h => h) (Or.inl ⟨by kernel_rfl, by intro u hSu; have h0 := cell_below V2 hSu; go_simp⟩) hS ?_
    try simp only [Act.put, List.setIfInBounds_toArray, List.set_cons_zero, List.set_cons_succ]
    refine wpAnyE_takeD (L := 999) (i := 20) (v := .int .i64 (m : Int)) (some 65) rfl rfl (by kernel_rfl) (by kernel_rfl) (by kernel_rfl) (by kernel_rfl) (fun _ _ _ h => h) (Or.inl ⟨by kernel_rfl, by intro u hSu; go_simp⟩) hS ?_
    try simp only [Act.put, List.setIfInBounds_toArray, List.set_cons_zero, List.set_cons_succ]
    refine wpAnyE_takeD (L := 999) (i := 21) (v := .pointer (some ⟨U, 2, none⟩)) (some 66) rfl rfl (by kernel_rfl) (by kernel_rfl) (by kernel_rfl) (by kernel_rfl) (fun _ _ _ h => h) (Or.inl ⟨by kernel_rfl, by intro u hSu; go_simp⟩) hS ?_
    try simp only [Act.put, List.setIfInBounds_toArray, List.set_cons_zero, List.set_cons_succ]
    refine wpAnyE_takeD (L := 999) (i := 22) (v := .slice rw N cw) (some 67) rfl rfl (by kernel_rfl) (by kernel_rfl) (by kernel_rfl) (by kernel_rfl) (fun _ _ _ h => h) (Or.inl ⟨by kernel_rfl, by intro u hSu; have h0 := cell_below U2 hSu; go_simp⟩) hS ?_
    try simp only [Act.put, List.setIfInBounds_toArray, List.set_cons_zero, List.set_cons_succ]
    refine wpAnyE_takeD (L := 999) (i := 23) (v := .int .i64 (N : Int)) (some 68) rfl rfl (by kernel_rfl) (by kernel_rfl) (by kernel_rfl) (by kernel_rfl) (fun _ _ _ h => h) (Or.inl ⟨by kernel_rfl, by intro u hSu; go_simp⟩) hS ?_
    try simp only [Act.put, List.setIfInBounds_toArray, List.set_cons_zero, List.set_cons_succ]
    refine wpAnyE_takeD (L := 999) (i := 24) (v := .int .i64 (m : Int)) (some 69) rfl rfl (by kernel_rfl) (by kernel_rfl) (by kernel_rfl) (by kernel_rfl) (fun _ _ _ h => h) (Or.inl ⟨by kernel_rfl, by intro u hSu; go_simp⟩) hS ?_
    try simp only [Act.put, List.setIfInBounds_toArray, List.set_cons_zero, List.set_cons_succ]
    refine wpAnyE_takeD (L := 999) (i := 25) (v := .bool false) (some 70) rfl rfl (by kernel_rfl) (by kernel_rfl) (by kernel_rfl) (by kernel_rfl) (fun _ _ _ h => h) (Or.inl ⟨by kernel_rfl, by intro u hSu; go_simp⟩) hS ?_
    try simp only [Act.put, List.setIfInBounds_toArray, List.set_cons_zero, List.set_cons_succ]
    refine wpAnyE_takeD (L := 999) (i := 26) (v := .bool false) (some 71) rfl rfl (by kernel_rfl) (by kernel_rfl) (by kernel_rfl) (by kernel_rfl) (fun _ _ _ h => h) (Or.inl ⟨by kernel_rfl, by intro u hSu; go_simp⟩) hS ?_
    try simp only [Act.put, List.setIfInBounds_toArray, List.set_cons_zero, List.set_cons_succ]
    refine wpAnyE_takeD (L := 999) (i := 27) (v := .bool false) (some 72) rfl rfl (by kernel_rfl) (by kernel_rfl) (by kernel_rfl) (by kernel_rfl) (fun _ _ _ h => h) (Or.inl ⟨by kernel_rfl, by intro u hSu; go_simp⟩) hS ?_
    try simp only [Act.put, List.setIfInBounds_toArray, List.set_cons_zero, List.set_cons_succ]
    refine wpAnyE_takeD (L := 999) (i := 28) (v := .pointer (some ⟨V, 2, none⟩)) (some 73) rfl rfl (by kernel_rfl) (by kernel_rfl) (by kernel_rfl) (by kernel_rfl) (fun _ _ _ h => h) (Or.inl ⟨by kernel_rfl, by intro u hSu; go_simp⟩) hS ?_
    try simp only [Act.put, List.setIfInBounds_toArray, List.set_cons_zero, List.set_cons_succ]
    refine wpAnyE_takeD (L := 999) (i := 29) (v := .slice (some ⟨xb, xo, none⟩) m cn) (some 74) rfl rfl (by kernel_rfl) (by kernel_rfl) (by kernel_rfl) (by kernel_rfl) (fun _ _ _ h => h) (Or.inl ⟨by kernel_rfl, by intro u hSu; have h0 := cell_below V2 hSu; go_simp⟩) hS ?_
    try simp only [Act.put, List.setIfInBounds_toArray, List.set_cons_zero, List.set_cons_succ]
    refine wpAnyE_takeD (L := 999) (i := 30) (v := .pointer (some ⟨Q, 1, none⟩)) (some 75) rfl rfl (by kernel_rfl) (by kernel_rfl) (by kernel_rfl) (by kernel_rfl) (fun _ _ _ h => h) (Or.inl ⟨by kernel_rfl, by intro u hSu; go_simp⟩) hS ?_
    try simp only [Act.put, List.setIfInBounds_toArray, List.set_cons_zero, List.set_cons_succ]
    refine wpAnyE_takeD (L := 999) (i := 31) (v := .int .i64 (m : Int)) (some 76) rfl rfl (by kernel_rfl) (by kernel_rfl) (by kernel_rfl) (by kernel_rfl) (fun _ _ _ h => h) (Or.inl ⟨by kernel_rfl, by intro u hSu; have h0 := cell_below Q1 hSu; go_simp⟩) hS ?_
    try simp only [Act.put, List.setIfInBounds_toArray, List.set_cons_zero, List.set_cons_succ]
    refine wpAnyE_takeD (L := 999) (i := 32) (v := .int .i64 (N : Int)) (some 77) rfl rfl (by kernel_rfl) (by kernel_rfl) (by kernel_rfl) (by kernel_rfl) (fun _ _ _ h => h) (Or.inl ⟨by kernel_rfl, by intro u hSu; go_simp⟩) hS ?_
    try simp only [Act.put, List.setIfInBounds_toArray, List.set_cons_zero, List.set_cons_succ]
    refine wpAnyE_takeD (L := 999) (i := 33) (v := .pointer (some ⟨xb, xo + N * 8, none⟩)) (some 78) rfl rfl (by kernel_rfl) (by kernel_rfl) (by kernel_rfl) (by kernel_rfl) (fun _ _ _ h => h) (Or.inl ⟨by kernel_rfl, by intro u hSu; go_simp⟩) hS ?_
    try simp only [Act.put, List.setIfInBounds_toArray, List.set_cons_zero, List.set_cons_succ]
    refine wpAnyE_takeD (L := 999) (i := 34) (v := .agg #[.int .i64 r.k, .int .i64 r.t, .int .i64 r.key, .bool r.hd, .int .i64 r.old, .bool r.hs, .int .i64 r.nw, .int .i64 r.bk]) (some 79) rfl rfl (by kernel_rfl) (by kernel_rfl) (by kernel_rfl) (by kernel_rfl) (fun _ _ _ h => h) (Or.inl ⟨by kernel_rfl, by intro u hSu; have h0 := cell_below x0 hSu; have h1 := cell_below x1 hSu; have h2 := cell_below x2 hSu; have h3 := cell_below x3 hSu; have h4 := cell_below x4 hSu; have h5 := cell_below x5 hSu; have h6 := cell_below x6 hSu; have h7 := cell_below x7 hSu; go_simp⟩) hS ?_
    try simp only [Act.put, List.setIfInBounds_toArray, List.set_cons_zero, List.set_cons_succ]
    refine wpAnyE_takeD (L := 999) (i := 35) (v := .agg #[.int .i64 r.k, .int .i64 r.t, .int .i64 r.key, .bool r.hd, .int .i64 r.old, .bool r.hs, .int .i64 r.nw, .int .i64 r.bk]) (some 80) rfl rfl (by kernel_rfl) (by kernel_rfl) (by kernel_rfl) (by kernel_rfl) (fun _ _ _ h => h) (Or.inl ⟨by kernel_rfl, by intro u hSu; have h0 := cell_below R0 hSu; have h1 := cell_below R1 hSu; have h2 := cell_below R2 hSu; have h3 := cell_below R3 hSu; have h4 := cell_below R4 hSu; have h5 := cell_below R5 hSu; have h6 := cell_below R6 hSu; have h7 := cell_below R7 hSu; go_simp⟩) hS ?_
    try simp only [Act.put, List.setIfInBounds_toArray, List.set_cons_zero, List.set_cons_succ]
    refine wpAnyE_takeD (L := 999) (i := 36) (v := .bool false) (some 81) rfl rfl (by kernel_rfl) (by kernel_rfl) (by kernel_rfl) (by kernel_rfl) (fun _ _ _ h => h) (Or.inl ⟨by kernel_rfl, by intro u hSu; go_simp⟩) hS ?_
    try simp only [Act.put, List.setIfInBounds_toArray, List.set_cons_zero, List.set_cons_succ]
    refine wpAnyE_takeD (L := 999) (i := 37) (v := .bool false) (some 82) rfl rfl (by kernel_rfl) (by kernel_rfl) (by kernel_rfl) (by kernel_rfl) (fun _ _ _ h => h) (Or.inl ⟨by kernel_rfl, by intro u hSu; go_simp⟩) hS ?_
    try simp only [Act.put, List.setIfInBounds_toArray, List.set_cons_zero, List.set_cons_succ]
    refine wpAnyE_takeD (L := 999) (i := 38) (v := .bool false) (some 83) rfl rfl (by kernel_rfl) (by kernel_rfl) (by kernel_rfl) (by kernel_rfl) (fun _ _ _ h => h) (Or.inl ⟨by kernel_rfl, by intro u hSu; go_simp⟩) hS ?_
    try simp only [Act.put, List.setIfInBounds_toArray, List.set_cons_zero, List.set_cons_succ]
    refine wpAnyE_takeD (L := 999) (i := 39) (v := .pointer (some ⟨K, 0, none⟩)) (some 84) rfl rfl (by kernel_rfl) (by kernel_rfl) (by kernel_rfl) (by kernel_rfl) (fun _ _ _ h => h) (Or.inl ⟨by kernel_rfl, by intro u hSu; go_simp⟩) hS ?_
    try simp only [Act.put, List.setIfInBounds_toArray, List.set_cons_zero, List.set_cons_succ]
    refine wpAnyE_takeD (L := 999) (i := 40) (v := .int .i64 0) (some 85) rfl rfl (by kernel_rfl) (by kernel_rfl) (by kernel_rfl) (by kernel_rfl) (fun _ _ _ h => h) (Or.inl ⟨by kernel_rfl, by intro u hSu; have h0 := cell_below K0 hSu; go_simp⟩) hS ?_
    try simp only [Act.put, List.setIfInBounds_toArray, List.set_cons_zero, List.set_cons_succ]
    refine wpAnyE_takeD (L := 999) (i := 41) (v := .bool false) (some 86) rfl rfl (by kernel_rfl) (by kernel_rfl) (by kernel_rfl) (by kernel_rfl) (fun _ _ _ h => h) (Or.inl ⟨by kernel_rfl, by intro u hSu; go_simp⟩) hS ?_
    try simp only [Act.put, List.setIfInBounds_toArray, List.set_cons_zero, List.set_cons_succ]
    refine wpAnyE_takeD (L := 999) (i := 42) (v := .bool false) (some 87) rfl rfl (by kernel_rfl) (by kernel_rfl) (by kernel_rfl) (by kernel_rfl) (fun _ _ _ h => h) (Or.inl ⟨by kernel_rfl, by intro u hSu; go_simp⟩) hS ?_
    try simp only [Act.put, List.setIfInBounds_toArray, List.set_cons_zero, List.set_cons_succ]
    refine wpAnyE_takeD (L := 999) (i := 43) (v := .bool false) (some 88) rfl rfl (by kernel_rfl) (by kernel_rfl) (by kernel_rfl) (by kernel_rfl) (fun _ _ _ h => h) (Or.inl ⟨by kernel_rfl, by intro u hSu; go_simp⟩) hS ?_
    try simp only [Act.put, List.setIfInBounds_toArray, List.set_cons_zero, List.set_cons_succ]
    refine wpAnyE_takeD (L := 999) (i := 44) (v := .pointer (some ⟨J, 2, none⟩)) (some 89) rfl rfl (by kernel_rfl) (by kernel_rfl) (by kernel_rfl) (by kernel_rfl) (fun _ _ _ h => h) (Or.inl ⟨by kernel_rfl, by intro u hSu; go_simp⟩) hS ?_
    try simp only [Act.put, List.setIfInBounds_toArray, List.set_cons_zero, List.set_cons_succ]
    refine wpAnyE_takeD (L := 999) (i := 45) (v := .slice (some ⟨yb, yo, none⟩) 1 cu) (some 90) rfl rfl (by kernel_rfl) (by kernel_rfl) (by kernel_rfl) (by kernel_rfl) (fun _ _ _ h => h) (Or.inl ⟨by kernel_rfl, by intro u hSu; have h0 := cell_below J2 hSu; go_simp⟩) hS ?_
    try simp only [Act.put, List.setIfInBounds_toArray, List.set_cons_zero, List.set_cons_succ]
    refine wpAnyE_takeD (L := 999) (i := 46) (v := .int .i64 1) (some 91) rfl rfl (by kernel_rfl) (by kernel_rfl) (by kernel_rfl) (by kernel_rfl) (fun _ _ _ h => h) (Or.inl ⟨by kernel_rfl, by intro u hSu; go_simp⟩) hS ?_
    try simp only [Act.put, List.setIfInBounds_toArray, List.set_cons_zero, List.set_cons_succ]
    refine wpAnyE_takeD (L := 999) (i := 47) (v := .bool false) (some 92) rfl rfl (by kernel_rfl) (by kernel_rfl) (by kernel_rfl) (by kernel_rfl) (fun _ _ _ h => h) (Or.inl ⟨by kernel_rfl, by intro u hSu; go_simp⟩) hS ?_
    try simp only [Act.put, List.setIfInBounds_toArray, List.set_cons_zero, List.set_cons_succ]
    refine wpAnyE_takeD (L := 999) (i := 48) (v := .bool false) (some 93) rfl rfl (by kernel_rfl) (by kernel_rfl) (by kernel_rfl) (by kernel_rfl) (fun _ _ _ h => h) (Or.inl ⟨by kernel_rfl, by intro u hSu; go_simp⟩) hS ?_
    try simp only [Act.put, List.setIfInBounds_toArray, List.set_cons_zero, List.set_cons_succ]
    refine wpAnyE_takeD (L := 999) (i := 49) (v := .bool false) (some 94) rfl rfl (by kernel_rfl) (by kernel_rfl) (by kernel_rfl) (by kernel_rfl) (fun _ _ _ h => h) (Or.inl ⟨by kernel_rfl, by intro u hSu; go_simp⟩) hS ?_
    try simp only [Act.put, List.setIfInBounds_toArray, List.set_cons_zero, List.set_cons_succ]
    refine wpAnyE_takeD (L := 999) (i := 50) (v := .pointer (some ⟨J, 2, none⟩)) (some 95) rfl rfl (by kernel_rfl) (by kernel_rfl) (by kernel_rfl) (by kernel_rfl) (fun _ _ _ h => h) (Or.inl ⟨by kernel_rfl, by intro u hSu; go_simp⟩) hS ?_
    try simp only [Act.put, List.setIfInBounds_toArray, List.set_cons_zero, List.set_cons_succ]
    refine wpAnyE_takeD (L := 999) (i := 51) (v := .slice (some ⟨yb, yo, none⟩) 1 cu) (some 96) rfl rfl (by kernel_rfl) (by kernel_rfl) (by kernel_rfl) (by kernel_rfl) (fun _ _ _ h => h) (Or.inl ⟨by kernel_rfl, by intro u hSu; have h0 := cell_below J2 hSu; go_simp⟩) hS ?_
    try simp only [Act.put, List.setIfInBounds_toArray, List.set_cons_zero, List.set_cons_succ]
    refine wpAnyE_takeD (L := 999) (i := 52) (v := .pointer (some ⟨yb, yo, none⟩)) (some 97) rfl rfl (by kernel_rfl) (by kernel_rfl) (by kernel_rfl) (by kernel_rfl) (fun _ _ _ h => h) (Or.inl ⟨by kernel_rfl, by intro u hSu; go_simp⟩) hS ?_
    try simp only [Act.put, List.setIfInBounds_toArray, List.set_cons_zero, List.set_cons_succ]
    refine wpAnyE_takeD (L := 999) (i := 53) (v := .agg #[.int .i64 r.k, .int .i64 r.t, .int .i64 r.key, .bool r.hd, .int .i64 r.old, .bool r.hs, .int .i64 r.nw, .int .i64 r.bk]) (some 98) rfl rfl (by kernel_rfl) (by kernel_rfl) (by kernel_rfl) (by kernel_rfl) (fun _ _ _ h => h) (Or.inl ⟨by kernel_rfl, by intro u hSu; have h0 := cell_below y0 hSu; have h1 := cell_below y1 hSu; have h2 := cell_below y2 hSu; have h3 := cell_below y3 hSu; have h4 := cell_below y4 hSu; have h5 := cell_below y5 hSu; have h6 := cell_below y6 hSu; have h7 := cell_below y7 hSu; go_simp⟩) hS ?_
    try simp only [Act.put, List.setIfInBounds_toArray, List.set_cons_zero, List.set_cons_succ]
    refine wpAnyE_takeD (L := 999) (i := 54) (v := .agg #[.int .i64 r.k, .int .i64 r.t, .int .i64 r.key, .bool r.hd, .int .i64 r.old, .bool r.hs, .int .i64 r.nw, .int .i64 r.bk]) (some 99) rfl rfl (by kernel_rfl) (by kernel_rfl) (by kernel_rfl) (by kernel_rfl) (fun _ _ _ h => h) (Or.inl ⟨by kernel_rfl, by intro u hSu; have h0 := cell_below R0 hSu; have h1 := cell_below R1 hSu; have h2 := cell_below R2 hSu; have h3 := cell_below R3 hSu; have h4 := cell_below R4 hSu; have h5 := cell_below R5 hSu; have h6 := cell_below R6 hSu; have h7 := cell_below R7 hSu; go_simp⟩) hS ?_
    try simp only [Act.put, List.setIfInBounds_toArray, List.set_cons_zero, List.set_cons_succ]
    refine wpAnyE_takeD (L := 999) (i := 55) (v := .bool false) (some 100) rfl rfl (by kernel_rfl) (by kernel_rfl) (by kernel_rfl) (by kernel_rfl) (fun _ _ _ h => h) (Or.inl ⟨by kernel_rfl, by intro u hSu; go_simp⟩) hS ?_
    try simp only [Act.put, List.setIfInBounds_toArray, List.set_cons_zero, List.set_cons_succ]
    refine wpAnyE_takeD (L := 999) (i := 56) (v := .bool false) (some 101) rfl rfl (by kernel_rfl) (by kernel_rfl) (by kernel_rfl) (by kernel_rfl) (fun _ _ _ h => h) (Or.inl ⟨by kernel_rfl, by intro u hSu; go_simp⟩) hS ?_
    try simp only [Act.put, List.setIfInBounds_toArray, List.set_cons_zero, List.set_cons_succ]
    refine wpAnyE_takeD (L := 999) (i := 57) (v := .bool false) (some 102) rfl rfl (by kernel_rfl) (by kernel_rfl) (by kernel_rfl) (by kernel_rfl) (fun _ _ _ h => h) (Or.inl ⟨by kernel_rfl, by intro u hSu; go_simp⟩) hS ?_
    try simp only [Act.put, List.setIfInBounds_toArray, List.set_cons_zero, List.set_cons_succ]
    refine wpAnyE_takeD (L := 999) (i := 58) (v := .pointer (some ⟨J, 1, none⟩)) (some 103) rfl rfl (by kernel_rfl) (by kernel_rfl) (by kernel_rfl) (by kernel_rfl) (fun _ _ _ h => h) (Or.inl ⟨by kernel_rfl, by intro u hSu; go_simp⟩) hS ?_
    try simp only [Act.put, List.setIfInBounds_toArray, List.set_cons_zero, List.set_cons_succ]
    refine wpAnyE_takeD (L := 999) (i := 59) (v := .int .i64 13) (some 104) rfl rfl (by kernel_rfl) (by kernel_rfl) (by kernel_rfl) (by kernel_rfl) (fun _ _ _ h => h) (Or.inl ⟨by kernel_rfl, by intro u hSu; have h0 := cell_below J1 hSu; go_simp⟩) hS ?_
    try simp only [Act.put, List.setIfInBounds_toArray, List.set_cons_zero, List.set_cons_succ]
    refine wpAnyE_takeD (L := 999) (i := 60) (v := .pointer (some ⟨K, 1, none⟩)) (some 105) rfl rfl (by kernel_rfl) (by kernel_rfl) (by kernel_rfl) (by kernel_rfl) (fun _ _ _ h => h) (Or.inl ⟨by kernel_rfl, by intro u hSu; go_simp⟩) hS ?_
    try simp only [Act.put, List.setIfInBounds_toArray, List.set_cons_zero, List.set_cons_succ]
    refine wpAnyE_takeD (L := 999) (i := 61) (v := .slice pa 13 pc) (some 106) rfl rfl (by kernel_rfl) (by kernel_rfl) (by kernel_rfl) (by kernel_rfl) (fun _ _ _ h => h) (Or.inl ⟨by kernel_rfl, by intro u hSu; have h0 := cell_below K1 hSu; go_simp⟩) hS ?_
    try simp only [Act.put, List.setIfInBounds_toArray, List.set_cons_zero, List.set_cons_succ]
    refine wpAnyE_takeD (L := 999) (i := 62) (v := .int .i64 13) (some 107) rfl rfl (by kernel_rfl) (by kernel_rfl) (by kernel_rfl) (by kernel_rfl) (fun _ _ _ h => h) (Or.inl ⟨by kernel_rfl, by intro u hSu; go_simp⟩) hS ?_
    try simp only [Act.put, List.setIfInBounds_toArray, List.set_cons_zero, List.set_cons_succ]
    refine wpAnyE_takeD (L := 999) (i := 63) (v := .bool false) (some 108) rfl rfl (by kernel_rfl) (by kernel_rfl) (by kernel_rfl) (by kernel_rfl) (fun _ _ _ h => h) (Or.inl ⟨by kernel_rfl, by intro u hSu; go_simp⟩) hS ?_
    try simp only [Act.put, List.setIfInBounds_toArray, List.set_cons_zero, List.set_cons_succ]
    refine wpAnyE_takeD (L := 999) (i := 64) (v := .bool false) (some 109) rfl rfl (by kernel_rfl) (by kernel_rfl) (by kernel_rfl) (by kernel_rfl) (fun _ _ _ h => h) (Or.inl ⟨by kernel_rfl, by intro u hSu; go_simp⟩) hS ?_
    try simp only [Act.put, List.setIfInBounds_toArray, List.set_cons_zero, List.set_cons_succ]
    refine wpAnyE_done (by kernel_rfl) ?_ _
    go_simp
    clear x0 x1 x2 x3 x4 x5 x6 x7 y0 y1 y2 y3 y4 y5 y6 y7 R0 R1 R2 R3 R4 R5 R6 R7 V0 V1 V2 J0 J1 J2 U0 U1 U2 Q0 Q1 Q2 Q3 K0 K1 hwN hwM hNm hN0 HRL HLF HT8
    go_wp2_with fail
    obtain ⟨w9, hw9⟩ : ∃ y, y = u1 := ⟨_, rfl⟩
    replace hS : Below W8.heap.size W8 w9 := by rw [hw9]; exact hS
    rw [← hw9]
    clear hw9
    go_loopw [11] (fun i wr => ∃ j : Nat, j ≤ N ∧ i = .int .i64 j ∧ Hid (Below W8.heap.size W8 wr)) (fun i _ => N - (intOf i).toNat)
    case atStart => exact ⟨0, Nat.zero_le _, rfl, hS⟩
    case round =>
      clear hS
      obtain ⟨j, hj, rfl, HB⟩ := hrel
      obtain ⟨U0, U1, U2⟩ := HBU.out.below HB.out
      by_cases hlt : j < N
      · have hlt' : (j : Int) < (N : Int) := by omega
        have hlA : (j : Int) < (m : Int) := by have := HM.out; omega
        have hj0 : (0 : Int) ≤ (j : Int) := by omega
        obtain ⟨V0, V1, V2⟩ := HBV.out.below HB.out
        obtain ⟨zb, zo, hz, -, hzc⟩ := (HW8.out.below HB.out).resolve_left (by omega)
        obtain ⟨x0, x1, x2, x3, x4, x5, x6, x7⟩ := (HXC.out j (by have := HM.out; omega)).below9 HB.out
        obtain ⟨y0, y1, y2, y3, y4, y5, y6, y7⟩ := hzc j hlt
        rw [hz] at U2
        clear hzc hz
        generalize R j = rr at *
        obtain ⟨v0, v1, v2, v3, v4, v5, v6, v7⟩ := rr
        dsimp only at x0 x1 x2 x3 x4 x5 x6 x7 y0 y1 y2 y3 y4 y5 y6 y7
        go_wp2_with fail
        go_quiet (fail)
        go_wp2_with fail
        go_roundw
        case rel => exact ⟨j + 1, hlt, by go_num, below_drewN HB.out _⟩
        case measure => simp [intOf]; omega
      · have hje : j = N := by omega
        subst hje
        have hnl : ¬ ((j : Int) < (j : Int)) := by omega
        obtain ⟨F0, F1, F2, F3⟩ := HBF.out.below HB.out
        obtain ⟨Q0, Q1, Q2, Q3⟩ := HBQ.out.below HB.out
        have hmm : ((m : Int) == (m : Int)) = true := by simp
        have HF : Hid (Below w.heap.size w wr) := below_then HB8.out HB.out
        clear hlt
        go_wp2_with fail
        go_ret
        exact ⟨rfl, HF.out⟩
  · have HCL : Hid (∀ u, LogAt u a1 a2 L → Calls Try.prog 13 #[.agg #[.slice a1 n1 c1, .slice a2 n2 c2], .agg #[.int .i64 r.k, .int .i64 r.t, .int .i64 r.key, .bool r.hd, .int .i64 r.old, .bool r.hs, .int .i64 r.nw, .int .i64 r.bk]] u (fun e w' => ∃ r1 d1 r2 d2, e = .returned (.agg #[.int .i64 (apC L (rfR r)), .int .i64 0, .slice r1 0 d1, .slice r2 0 d2]) ∧ Below u.heap.size u w')) := fun u h => by rw [← q1, ← q2]; exact append_bad_i hC a1 a2 c1 c2 u hp1 hp2 hby h
    have HSC : Hid (∀ u, LogAt u a1 a2 L → Calls Try.prog 14 #[.agg #[.slice a1 n1 c1, .slice a2 n2 c2], .agg #[.int .i64 r.k, .int .i64 r.t, .int .i64 r.key, .bool r.hd, .int .i64 r.old, .bool r.hs, .int .i64 r.nw, .int .i64 r.bk]] u (fun e w' => ∃ r1 d1 r2 d2, e = .returned (.agg #[.int .i64 (apC L (rfR r)), .int .i64 0, .slice r1 0 d1, .slice r2 0 d2]) ∧ Below u.heap.size u w')) := fun u h => by rw [← q1, ← q2]; exact append_bad_s hC a1 a2 c1 c2 u hp1 hp2 hby h
    have hC1 : (apC L (rfR r) != 0) = true := by simp [hC]
    clear hC hby hp1 hp2 q1 q2 m1 m2 k1 k2
    generalize apC L (rfR r) = C at *
    go_wp2_with fail
    refine (HCL.out _ HL1.out).mono ?_
    rintro e w2 ⟨r1, d1, r2, d2, rfl, hb2⟩
    have HB2 : Hid (Below w.heap.size w w2) := below_then HB1.out hb2
    have HL2 : Hid (LogAt w2 a1 a2 L) := HL1.out.below hb2
    replace BL := BL.below hb2
    replace BE := BE.below9 hb2
    clear hb2 HB1 HL1 HCL
    go_upto_region 6 with fail
    obtain ⟨W3, hW3⟩ : ∃ y, y = w2.alloc (.cells #[.int .i64 C, .int .i64 0, .slice r1 0 d1, .slice r2 0 d2] 29) := ⟨_, rfl⟩
    have hb3 : Below w2.heap.size w2 W3 := by rw [hW3]; exact below_new _ _
    have D0 : W3.cell? ⟨w2.heap.size, 0, none⟩ = some (.int .i64 C) := by rw [hW3]; simp [go_sem]
    obtain ⟨P0, P1⟩ := BL.below hb3
    obtain ⟨R0, R1, R2, R3, R4, R5, R6, R7⟩ := (BE.below9 hb3).at0
    have HB3 : Hid (Below w.heap.size w W3) := below_then HB2.out hb3
    have HL3 : Hid (LogAt W3 a1 a2 L) := HL2.out.below hb3
    rw [← hW3]
    generalize w2.heap.size = Q at *
    generalize w1.heap.size + 1 = E at *
    generalize w1.heap.size = P at *
    clear hW3 hb3 BL BE HB2 HL2 hC1
    refine wp_region_E 999 (S := fun u => Below W3.heap.size W3 u) (by kernel_rfl) ((Below.refl _ _).drew) (fun hS => ?_)
    obtain ⟨u0, hu0⟩ : ∃ y, y = W3.drew := ⟨_, rfl⟩
    rw [← hu0] at hS ⊢
    clear hu0
    refine wpAnyE_takeD (L := 999) (i := 0) (v := .agg #[.slice a1 n1 c1, .slice a2 n2 c2]) (some 25) rfl rfl (by kernel_rfl) (by kernel_rfl) (by kernel_rfl) (by kernel_rfl) (fun _ _ _ h => h) (Or.inl ⟨by kernel_rfl, by intro u hSu; have h0 := cell_below P0 hSu; have h1 := cell_below P1 hSu; go_simp⟩) hS ?_
    try simp only [Act.put, List.setIfInBounds_toArray, List.set_cons_zero, List.set_cons_succ]
    refine wpAnyE_takeD (L := 999) (i := 1) (v := .agg #[.int .i64 r.k, .int .i64 r.t, .int .i64 r.key, .bool r.hd, .int .i64 r.old, .bool r.hs, .int .i64 r.nw, .int .i64 r.bk]) (some 26) rfl rfl (by kernel_rfl) (by kernel_rfl) (by kernel_rfl) (by kernel_rfl) (fun _ _ _ h => h) (Or.inl ⟨by kernel_rfl, by intro u hSu; have h0 := cell_below R0 hSu; have h1 := cell_below R1 hSu; have h2 := cell_below R2 hSu; have h3 := cell_below R3 hSu; have h4 := cell_below R4 hSu; have h5 := cell_below R5 hSu; have h6 := cell_below R6 hSu; have h7 := cell_below R7 hSu; go_simp⟩) hS ?_
    try simp only [Act.put, List.setIfInBounds_toArray, List.set_cons_zero, List.set_cons_succ]
    refine wpAnyE_takeD (L := 999) (i := 4) (v := .pointer (some ⟨Q, 0, none⟩)) (some 29) rfl rfl (by kernel_rfl) (by kernel_rfl) (by kernel_rfl) (by kernel_rfl) (fun _ _ _ h => h) (Or.inl ⟨by kernel_rfl, by intro u hSu; go_simp⟩) hS ?_
    try simp only [Act.put, List.setIfInBounds_toArray, List.set_cons_zero, List.set_cons_succ]
    refine wpAnyE_takeD (L := 999) (i := 5) (v := .int .i64 C) (some 30) rfl rfl (by kernel_rfl) (by kernel_rfl) (by kernel_rfl) (by kernel_rfl) (fun _ _ _ h => h) (Or.inl ⟨by kernel_rfl, by intro u hSu; have h0 := cell_below D0 hSu; go_simp⟩) hS ?_
    try simp only [Act.put, List.setIfInBounds_toArray, List.set_cons_zero, List.set_cons_succ]
    refine wpAnyE_ready (rs := [2]) (by kernel_rfl) (by simp) ?_
    refine AllReadyE.cons rfl (fun K9 hK => ?_) AllReadyE.nil
    go_simp
    refine (HSC.out _ (HL3.out.below hS)).mono ?_
    rintro e u1 ⟨s1, e1, s2, e2, rfl, hbu⟩
    refine hK.out _ _ (below_then hS hbu) (fun hS9 => ?_)
    try simp only [Act.put, List.setIfInBounds_toArray, List.set_cons_zero, List.set_cons_succ]
    clear hK K9 hS hbu
    have hS := hS9
    clear hS9
    refine wpAnyE_takeD (L := 999) (i := 3) (v := .int .i64 C) (some 28) rfl rfl (by kernel_rfl) (by kernel_rfl) (by kernel_rfl) (by kernel_rfl) (fun _ _ _ h => h) (Or.inl ⟨by kernel_rfl, by intro u hSu; have hf : (Instr.field 29 (.agg #[.int .i64 C, .int .i64 0, .slice s1 0 e1, .slice s2 0 e2]) 0).run Try.prog u = .ok (.int .i64 C) u := (by kernel_rfl); go_simp⟩) hS ?_
    try simp only [Act.put, List.setIfInBounds_toArray, List.set_cons_zero, List.set_cons_succ]
    refine wpAnyE_takeD (L := 999) (i := 6) (v := .bool (C == C)) (some 31) rfl rfl (by kernel_rfl) (by kernel_rfl) (by kernel_rfl) (by kernel_rfl) (fun _ _ _ h => h) (Or.inl ⟨by kernel_rfl, by intro u hSu; go_simp⟩) hS ?_
    try simp only [Act.put, List.setIfInBounds_toArray, List.set_cons_zero, List.set_cons_succ]
    refine wpAnyE_takeD (L := 999) (i := 7) (v := .bool (C == C)) (some 2) rfl rfl (by kernel_rfl) (by kernel_rfl) (by kernel_rfl) (by kernel_rfl) (fun _ _ _ h => h) (Or.inl ⟨by kernel_rfl, by intro u hSu; go_simp⟩) hS ?_
    try simp only [Act.put, List.setIfInBounds_toArray, List.set_cons_zero, List.set_cons_succ]
    refine wpAnyE_done (by kernel_rfl) ?_ _
    go_simp
    go_wp2_with fail
    go_ret
    exact ⟨ret_bool (by simp), below_then HB3.out hS⟩
end Go.Proofs.Ytapggckfacmklaa
