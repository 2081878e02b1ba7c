/- spec.CommitTxn. -/
import Derived.Test.YtblhnhmcdbfhiaaCmb
import Derived.Test.YtblhnhmcdbfhiaaCb
import Derived.Test.YtblhnhmcdbfhiaaNb
import Derived.Test.YtblhnhmcdbfhiaaGh
namespace Go.Proofs.Ytblhnhmcdbfhiaa
open Go.RowKit Go.Deep
set_option linter.unusedVariables false
set_option maxRecDepth 20000

theorem idn_pos {E : En} (h : eF E = 0) {j : Nat} (hj : j < E.p) : (E.T j).id ≠ 0 := by
  have hi := (tF_good ((eF_good h).2.2.1 j hj)).1
  unfold tIn at hi
  simp only [Bool.and_eq_true] at hi
  have a1 := inB_iff.1 hi.1.1.1
  omega
set_option maxHeartbeats 16000000 in
theorem specCt_any (E : En) (a : Option Addr) (cap : Nat) (a' : Option Addr) (cap' : Nat) (id : Int) (w : World) (hs : SmallE E) (h : EngAt w a a' E) :
    Calls Try.prog 51 #[.agg #[.int .i64 E.nx, .int .i64 E.ck, .slice a E.p cap, .slice a' E.q cap'], .int .i64 id] w (ERes (ctC E id) (ctV E id) (ctE E id) w) := by
  have HXA : Hid (EngAt w a a' E) := h
  have HS : Hid (SmallE E) := hs
  clear h hs
  have HBX : Hid (∀ o1 o2 : Obj, o1 = .cells #[.int .i64 E.nx, .int .i64 E.ck, .slice a E.p cap, .slice a' E.q cap'] 47 → o2 = .cells #[.int .i64 0, .int .i64 0, .int .i64 0, .int .i64 0, .slice none 0 0, .slice none 0 0] 54 →
      Box4 ((w.alloc o1).alloc o2) w.heap.size (.int .i64 E.nx) (.int .i64 E.ck) (.slice a E.p cap) (.slice a' E.q cap') ∧ Box6 ((w.alloc o1).alloc o2) (w.heap.size + 1) (.int .i64 0) (.int .i64 0) (.int .i64 0) (.int .i64 0) (.slice none 0 0) (.slice none 0 0) ∧ (∀ i, ((w.alloc o1).alloc o2).frozen? ⟨w.heap.size + 1, i, none⟩ = false) ∧ Below w.heap.size w ((w.alloc o1).alloc o2) ∧ ((w.alloc o1).alloc o2).heap.size = w.heap.size + 2) := by
    rintro o1 o2 rfl rfl
    exact ⟨(Box4.new w _ _ _ _ _).alloc _, by simp [Box6, go_sem], fun i => by simp [go_sem], ((Below.refl _ _).alloc (Nat.le_refl _) _).alloc (by simp) _, by simp⟩
  go_enter Try.func51, Try.ntmps51
  go_wp2_with fail
  obtain ⟨hb4, hb2, hbf, hbw, hbs⟩ := HBX.out _ _ rfl rfl
  refine (l6Asked_any E w.heap.size a cap a' cap' id _ HS.out ⟨hb4, HXA.out.below hbw⟩).mono ?_
  rintro e W ⟨rfl, hb1⟩
  have HB4 : Hid (Box4 W w.heap.size (.int .i64 E.nx) (.int .i64 E.ck) (.slice a E.p cap) (.slice a' E.q cap')) := hb4.below hb1
  have HR6 : Hid (Box6 W (w.heap.size + 1) (.int .i64 0) (.int .i64 0) (.int .i64 0) (.int .i64 0) (.slice none 0 0) (.slice none 0 0)) := hb2.below hb1
  have HRF : Hid (∀ i, W.frozen? ⟨w.heap.size + 1, i, none⟩ = false) := fun i => ((bcell2 hb1).2 _ _ (by rw [hbs]; omega)).trans (hbf i)
  have HBW : Hid (Below w.heap.size w W) := below_then hbw hb1
  have hs1 : w.heap.size + 2 ≤ W.heap.size := by have := hb1.size; rw [hbs] at this; exact this
  clear hb1 hb4 hb2 hbf hbw hbs HBX
  by_cases hc : askC E id = 0
  case neg =>
    have HF : Hid (∀ w7, Below w.heap.size w w7 → ERes (ctC E id) (ctV E id) (ctE E id) w (.returned (.agg #[.int .i64 (askC E id), .int .i64 0, .int .i64 0, .int .i64 0, .slice none 0 0, .slice none 0 0])) w7) := fun w7 hb => by
      rw [(ct_bad hc).1, (ct_bad hc).2.1, (ct_bad hc).2.2]; exact eres_bad hb
    have hc2 : (askC E id != 0) = true := by simp [hc]
    have HBK := HBW
    have HRK := HR6
    have HRKF := HRF
    clear hc
    generalize askC E id = uu at *
    generalize askP E id = up at *
    go_wp2_with fail
    refine (l6Bad_any uu _).mono ?_
    rintro e w9 ⟨rfl, hb9⟩
    have HB9 : Hid (Below w.heap.size w w9) := below_then HBK.out hb9
    obtain ⟨r0, r1, r2, r3, r4, r5⟩ := HRK.out.below hb9
    have rf : ∀ i, w9.frozen? ⟨w.heap.size + 1, i, none⟩ = false := fun i => ((bcell2 hb9).2 _ _ (by omega)).trans (HRKF.out i)
    clear hb9
    go_wp2_with fail
    refine bodyPost_ret (v := .agg #[.int .i64 uu, .int .i64 0, .int .i64 0, .int .i64 0, .slice none 0 0, .slice none 0 0]) (by simp [results, Try.results51, go_sem, *]) rfl ?_
    refine HF.out _ ?_
    repeat (first | with_reducible exact HB9.out | with_reducible refine Below.setCell ?_ (by first | omega | (simp <;> omega)) _)
  obtain ⟨h0, j, hj, hp, hid⟩ := ask_open hc
  have HEX : Hid (EngAt W a a' E) := HXA.out.below HBW.out
  have h32 := (eF_pq h0).2
  have hp20 := (eF_pq h0).1
  have HIDN : Hid (id ≠ 0) := by rw [← hid]; exact idn_pos h0 hj
  have HU60 : Hid (∀ i, i < E.p → (E.T i).n ≤ 60) := undos60 h0
  have HR12 : Hid (∀ i, i < E.q → (E.R i).n ≤ 12) := rows12 h0
  have hck := (eF_good h0).2.1
  have hj1 : (j : Int) < (E.p : Int) := by omega
  have hj0 : (0 : Int) ≤ (j : Int) := by omega
  obtain ⟨b0, b1, b2, b3⟩ := HB4.out
  have HHC : Hid (askC E id = 0) := hc
  have HHP : Hid (askP E id = (j : Int)) := hp
  rw [hc, hp]
  clear hc hp h0
  go_wp2_with fail
  refine (l6Copy_any E a cap a' cap' W hp20 h32 HU60.out HR12.out HEX.out).mono ?_
  rintro e w2 ⟨v, v', b0', M, rfl, hb2, hb0, hM, hgt, hgr⟩
  obtain ⟨va, vc, rfl, -, hOT⟩ := hgt.own
  obtain ⟨va', vc', rfl, -, hOR⟩ := hgr.own
  obtain ⟨W3, hW3⟩ : ∃ x, x = w2.alloc (.cells #[.int .i64 E.nx, .int .i64 E.ck, .slice va E.p vc, .slice va' E.q vc'] 47) := ⟨_, rfl⟩
  have HB3 : Hid (Below W.heap.size W W3) := by rw [hW3]; exact below_then hb2 (below_new _ _)
  have hz3 : W3.heap.size = w2.heap.size + 1 := by rw [hW3]; exact World.size_alloc _ _
  have HC3 : Hid (Box4 W3 w2.heap.size (.int .i64 E.nx) (.int .i64 E.ck) (.slice va E.p vc) (.slice va' E.q vc')) := by rw [hW3]; exact Box4.new _ _ _ _ _ _
  have HF3 : Hid (∀ i, W3.frozen? ⟨w2.heap.size, i, none⟩ = false) := fun i => by rw [hW3]; simp [go_sem]
  have HT3 : Hid (OwnTx W3 b0' M va E.p E.T) := by rw [hW3]; exact hOT.below (below_new _ _)
  have HO3 : Hid (OwnRw W3 M w2.heap.size va' E.q E.R) := by rw [hW3]; exact hOR.below (below_new _ _)
  have hs2 := hb2.size
  have hMz : M ≤ w2.heap.size := hOT.1
  clear hb2 hgt hgr hOT hOR
  obtain ⟨-, h1 | ⟨tb, toff, rfl, ht1, ht2, htf, l, hh, hd, hc⟩⟩ := HT3.out
  · omega
  obtain ⟨-, -, ui, uc, ⟨y0, y1, y2, y3, y4⟩, -, -⟩ := hc j hj
  clear hc hd b0 b1 b2 b3
  go_upto_region 5 with fail
  rw [← hW3]
  clear hW3
  have HCW : Hid (Box4 W3 w.heap.size (.int .i64 E.nx) (.int .i64 E.ck) (.slice a E.p cap) (.slice a' E.q cap')) := HB4.out.below HB3.out
  obtain ⟨b0, b1, b2, b3⟩ := HCW.out
  obtain ⟨c0, c1, c2, c3⟩ := HC3.out
  have cf := HF3.out
  by_cases hfull : 0 < (E.T j).n ∧ E.ck = 1000000
  · have HF : Hid (∀ w7, Below w.heap.size w w7 → ERes (ctC E id) (ctV E id) (ctE E id) w (.returned (.agg #[.int .i64 3, .int .i64 0, .int .i64 0, .int .i64 0, .slice none 0 0, .slice none 0 0])) w7) := fun w7 hb => by
      have e := ct_full HHC.out HHP.out hfull.1 hfull.2
      rw [e.1, e.2.1, e.2.2]; exact eres_bad hb
    have hn0 : (0 : Int) < ((E.T j).n : Int) := by omega
    have hck2 : (E.ck == 1000000) = true := by simp [hfull.2]
    have HBK : Hid (Below w.heap.size w W3) := below_then HBW.out HB3.out
    have HRK : Hid (Box6 W3 (w.heap.size + 1) (.int .i64 0) (.int .i64 0) (.int .i64 0) (.int .i64 0) (.slice none 0 0) (.slice none 0 0)) := HR6.out.below HB3.out
    have HRKF : Hid (∀ i, W3.frozen? ⟨w.heap.size + 1, i, none⟩ = false) := fun i => ((bcell2 HB3.out).2 _ _ (by omega)).trans (HRF.out i)
    clear hfull
    go_wp2_with fail
    refine (l6Bad_any 3 _).mono ?_
    rintro e w9 ⟨rfl, hb9⟩
    have HB9 : Hid (Below w.heap.size w w9) := below_then HBK.out hb9
    obtain ⟨r0, r1, r2, r3, r4, r5⟩ := HRK.out.below hb9
    have rf : ∀ i, w9.frozen? ⟨w.heap.size + 1, i, none⟩ = false := fun i => ((bcell2 hb9).2 _ _ (by omega)).trans (HRKF.out i)
    clear hb9
    go_wp2_with fail
    refine bodyPost_ret (v := .agg #[.int .i64 3, .int .i64 0, .int .i64 0, .int .i64 0, .slice none 0 0, .slice none 0 0]) (by simp [results, Try.results51, go_sem, *]) rfl ?_
    refine HF.out _ ?_
    repeat (first | with_reducible exact HB9.out | with_reducible refine Below.setCell ?_ (by first | omega | (simp <;> omega)) _)
  by_cases hn : 0 < (E.T j).n
  · have hk : E.ck ≠ 1000000 := fun e => hfull ⟨hn, e⟩
    have hn0 : (0 : Int) < ((E.T j).n : Int) := by omega
    have hck2 : (E.ck == 1000000) = false := by simp [hk]
    have HE : Hid (ctC E id = 0 ∧ ctV E id = E.ck + 1 ∧ ctE E id = cmY E j) := ct_yes HHC.out HHP.out hn hk
    have hwrap : IntKind.i64.wrap (E.ck + 1) = E.ck + 1 := by rw [IntKind.wrap_i64]; omega
    clear hfull hk
    obtain ⟨S3, hS3⟩ : ∃ x, x = W3.setCell ⟨w2.heap.size, 1, none⟩ (.int .i64 (E.ck + 1)) := ⟨_, rfl⟩
    have hw3 : Writes w2.heap.size (w2.heap.size + 1) W3 S3 := by rw [hS3]; exact Writes.setCell (Writes.refl _ _ _) (p := ⟨w2.heap.size, 1, none⟩) (Nat.le_refl _) (Nat.lt_succ_self _) _
    have hz4 : S3.heap.size = w2.heap.size + 1 := by rw [hS3, ← hz3]; simp [World.setCell]
    have HC4 : Hid (Box4 S3 w2.heap.size (.int .i64 E.nx) (.int .i64 (E.ck + 1)) (.slice (some ⟨tb, toff, none⟩) E.p vc) (.slice va' E.q vc')) := by
      rw [hS3]; exact ⟨(setO (by omega)).trans c0, setS c1, (setO (by omega)).trans c2, (setO (by omega)).trans c3⟩
    have z3' : S3.cell? ⟨tb, toff + j * 5 + 3, none⟩ = some (.int .i64 (E.T j).dn) := (hw3.cell (by omega) (.inl (by omega)) _).trans y3
    have hfz' : ∀ i, S3.frozen? ⟨tb, i, none⟩ = false := fun i => by rw [hS3, World.frozen?_setCell]; exact htf i
    have HT4 : Hid (OwnTx S3 b0' M (some ⟨tb, toff, none⟩) E.p E.T) := HT3.out.writes hw3 (.inl hMz)
    have HO4 : Hid (OwnRw S3 M w2.heap.size va' E.q E.R) := HO3.out.writes hw3 (.inl (Nat.le_refl _))
    have HBB4 : Hid (Below W.heap.size W S3) := Writes.below HB3.out hw3 hs2
    go_upto_region 10 with fail
    rw [← hS3]
    clear hS3 hw3 y0 y1 y2 y3 y4 htf b0 b1 b2 b3 c0 c1 c2 c3 cf HT3 HO3 HB3 HC3 HF3 hz3
    obtain ⟨c0, c1, c2, c3⟩ := HC4.out
    obtain ⟨S4, hS4⟩ : ∃ x, x = S3.setCell ⟨tb, toff + j * 5 + 3, none⟩ (.int .i64 (E.ck + 1)) := ⟨_, rfl⟩
    have hw4 : Writes tb (tb + 1) S3 S4 := by rw [hS4]; exact Writes.setCell (Writes.refl _ _ _) (p := ⟨tb, toff + j * 5 + 3, none⟩) (Nat.le_refl _) (Nat.lt_succ_self _) _
    have hz5 : S4.heap.size = w2.heap.size + 1 := by rw [hS4, ← hz4]; simp [World.setCell]
    have HC5 : Hid (Box4 S4 w2.heap.size (.int .i64 E.nx) (.int .i64 (E.ck + 1)) (.slice (some ⟨tb, toff, none⟩) E.p vc) (.slice va' E.q vc')) := HC4.out.writes hw4 (.inr (by omega))
    have HT5 : Hid (OwnTx S4 b0' M (some ⟨tb, toff, none⟩) E.p (upf E.T j ⟨(E.T j).id, (E.T j).am, (E.T j).st, E.ck + 1, (E.T j).n, (E.T j).U⟩)) := by
      have g : ∀ o', o' ≠ toff + j * 5 + 3 → S4.cell? ⟨tb, o', none⟩ = S3.cell? ⟨tb, o', none⟩ := fun o' ho => by rw [hS4, setO (by omega)]
      exact HT4.out.num hj hw4 (fun o' ho => g o' (by omega)) (fun i => by rw [hS4, World.frozen?_setCell]) (fun ui uc ⟨q0, q1, q2, q3, q4⟩ => ⟨(g _ (by omega)).trans q0, (g _ (by omega)).trans q1, (g _ (by omega)).trans q2, by rw [hS4]; exact setS q3, (g _ (by omega)).trans q4⟩) rfl rfl
    have HO5 : Hid (OwnRw S4 M w2.heap.size va' E.q (cmk E.R id (E.ck + 1) 0)) := by rw [cmk_zero]; exact HO4.out.writes hw4 (.inr (by omega))
    have HBB5 : Hid (Below W.heap.size W S4) := Writes.below HBB4.out hw4 (by omega)
    go_upto_region 11 with fail
    rw [← hS4]
    clear hS4 hw4 z3' hfz' c0 c1 c2 c3 HT4 HO4 HBB4 HC4 hz4
    go_wp2_with fail
    go_loopw [9] (fun i wr => ∃ k : Nat, k ≤ E.q ∧ i = .int .i64 k ∧ Hid (Writes M w2.heap.size S4 wr) ∧ Hid (OwnRw wr M w2.heap.size va' E.q (cmk E.R id (E.ck + 1) k))) (fun i _ => E.q - (intOf i).toNat)
    case atStart => exact ⟨0, Nat.zero_le _, rfl, Writes.refl _ _ _, HO5⟩
    case round =>
      clear HO5
      obtain ⟨k, hk, rfl, HW, HO⟩ := hrel
      have hszw := HW.out.size
      have HC6 : Hid (Box4 wr w2.heap.size (.int .i64 E.nx) (.int .i64 (E.ck + 1)) (.slice (some ⟨tb, toff, none⟩) E.p vc) (.slice va' E.q vc')) := HC5.out.writes HW.out (.inr (Nat.le_refl _))
      obtain ⟨c0, c1, c2, c3⟩ := HC6.out
      by_cases hlt : k < E.q
      · have hlt' : (k : Int) < (E.q : Int) := by omega
        have hk0 : (0 : Int) ≤ (k : Int) := by omega
        obtain ⟨b, off, ai, ci, l, hh, rfl, hlo, hhi, hC, hci, hlr, hown, hput⟩ := HO.out.chain hlt
        rw [cmk_at] at hC hci hown hput
        have HV : Hid (VersAt wr ai (E.R k).n (E.R k).U) := hown.at
        have HOW : Hid (Own4 wr l hh ai (E.R k).n (E.R k).U) := hown
        have HPT : Hid (∀ U w1, Writes l hh wr w1 → Own4 w1 l hh ai (E.R k).n U → OwnRw w1 M w2.heap.size (some ⟨b, off, none⟩) E.q (upf (cmk E.R id (E.ck + 1) k) k ⟨(E.R k).key, (E.R k).n, U⟩)) := hput
        obtain ⟨x0, x1⟩ := hC
        clear hown hput
        obtain hf | hf := bool_or2 (fob (E.R k).n (E.R k).U id)
        · have hp : 0 < (E.R k).n := by
            have hf2 := hf
            unfold fob at hf2
            simp only [Bool.and_eq_true, decide_eq_true_eq] at hf2
            exact hf2.1
          have hp1 : (0 : Int) < ((E.R k).n : Int) := by omega
          have hwq : (wrt (E.R k).n (E.R k).U == id) = true := by rw [← fob_wrt HIDN.out]; exact hf
          have hcm : cmR (E.R k) id (E.ck + 1) = ⟨(E.R k).key, (E.R k).n, coS (E.R k).U (E.ck + 1)⟩ := if_pos hf
          obtain ⟨ho0, ho1 | ⟨vb, vo, rfl, hv1, hv2, hrow⟩⟩ := HOW.out
          · omega
          obtain ⟨d0, d1, d2, d3⟩ := hrow.1 0 hp
          have df := hrow.2
          rw [Nat.zero_mul, Nat.add_zero] at d0 d1 d2 d3
          have HG2 : Hid (∀ wy, wy = wr ∨ wy = wr.drew → True) := fun _ _ => trivial
          have HO2 : Hid (OwnRw (wr.setCell ⟨vb, vo + 1, none⟩ (.int .i64 (E.ck + 1))) M w2.heap.size (some ⟨b, off, none⟩) E.q (cmk E.R id (E.ck + 1) (k + 1))) := by
            have hws : Writes l hh wr (wr.setCell ⟨vb, vo + 1, none⟩ (.int .i64 (E.ck + 1))) := Writes.setCell (Writes.refl _ _ _) (p := ⟨vb, vo + 1, none⟩) hv1 hv2 _
            have h := HPT.out (coS (E.R k).U (E.ck + 1)) _ hws ⟨Nat.le_trans ho0 hws.size, .inr ⟨vb, vo, rfl, hv1, hv2, row4_at hp hrow⟩⟩
            rw [← hcm] at h
            exact h.congr fun i _ => cmk_step E.R id (E.ck + 1) k i
          have HW2 : Hid (Writes M w2.heap.size S4 (wr.setCell ⟨vb, vo + 1, none⟩ (.int .i64 (E.ck + 1)))) := HW.out.setCell (p := ⟨vb, vo + 1, none⟩) (by show M ≤ vb; omega) (by show vb < w2.heap.size; omega) _
          have hbd : Below wr.heap.size wr wr.drew := (Below.refl _ _).drew
          have hrowd : Row4 wr.drew vb vo (E.R k).n (E.R k).U := ⟨fun i hi => (hrow.1 i hi).block (hbd.block _ (by omega)), fun i => ((bcell2 hbd).2 _ _ (by omega)).trans (df i)⟩
          have HO2d : Hid (OwnRw (wr.drew.setCell ⟨vb, vo + 1, none⟩ (.int .i64 (E.ck + 1))) M w2.heap.size (some ⟨b, off, none⟩) E.q (cmk E.R id (E.ck + 1) (k + 1))) := by
            have hws : Writes l hh wr (wr.drew.setCell ⟨vb, vo + 1, none⟩ (.int .i64 (E.ck + 1))) := Writes.setCell (Writes.refl _ _ _).drew1 (p := ⟨vb, vo + 1, none⟩) hv1 hv2 _
            have h := HPT.out (coS (E.R k).U (E.ck + 1)) _ hws ⟨Nat.le_trans ho0 hws.size, .inr ⟨vb, vo, rfl, hv1, hv2, row4_at hp hrowd⟩⟩
            rw [← hcm] at h
            exact h.congr fun i _ => cmk_step E.R id (E.ck + 1) k i
          have HW2d : Hid (Writes M w2.heap.size S4 (wr.drew.setCell ⟨vb, vo + 1, none⟩ (.int .i64 (E.ck + 1)))) := HW.out.drew1.setCell (p := ⟨vb, vo + 1, none⟩) (by show M ≤ vb; omega) (by show vb < w2.heap.size; omega) _
          clear hbd hrowd
          have HLT : Hid (k < E.q) := hlt
          generalize hwt : wrt (E.R k).n (E.R k).U = wt at *
          clear hf hcm hrow HG2 HOW HPT HW HO HC6 HC5 HT5 HBB5
          go_upto_region 15 with (first | (go_at_call 102; refine (l5Writer_any (E.R k).n (E.R k).U _ ci _ HV.out).mono ?_; rintro e w' ⟨rfl, hw'⟩; rw [hw', hwt]; clear hw'))
          go_region
          all_goals
            go_wp2_with fail
            go_roundw
            case rel => first | exact ⟨k + 1, HLT.out, by go_num, HW2, HO2⟩ | exact ⟨k + 1, HLT.out, by go_num, HW2d, HO2d⟩
            case measure => simp [intOf]; omega
        · have HO2 : Hid (OwnRw wr M w2.heap.size (some ⟨b, off, none⟩) E.q (cmk E.R id (E.ck + 1) (k + 1))) := HO.out.congr fun i _ => cmk_skip hf i
          have hwq : (wrt (E.R k).n (E.R k).U == id) = false := by rw [← fob_wrt HIDN.out]; exact hf
          have HLT : Hid (k < E.q) := hlt
          generalize hwt : wrt (E.R k).n (E.R k).U = wt at *
          clear hf HOW HPT HO HC6 HC5 HT5 HBB5
          go_wp2_with (first | (go_at_call 102; refine (l5Writer_any (E.R k).n (E.R k).U _ ci _ HV.out).mono ?_; rintro e w' ⟨rfl, hw'⟩; rw [hw', hwt]; clear hw'))
          go_roundw
          case rel => exact ⟨k + 1, HLT.out, by go_num, HW, HO2⟩
          case measure => simp [intOf]; omega
      · have hkn : k = E.q := by omega
        have hnl : ¬ ((k : Int) < (E.q : Int)) := by omega
        have HO6 : Hid (OwnRw wr M w2.heap.size va' (cmY E j).q (cmY E j).R) := by
          show OwnRw wr M w2.heap.size va' E.q (cmk E.R (E.T j).id (E.ck + 1) E.q)
          rw [hid, ← hkn]
          have h := HO.out
          rw [← hkn] at h
          exact h
        have HT6 : Hid (OwnTx wr b0' M (some ⟨tb, toff, none⟩) E.p (upf E.T j ⟨(E.T j).id, (E.T j).am, (E.T j).st, E.ck + 1, (E.T j).n, (E.T j).U⟩)) := HT5.out.writes HW.out (.inl (Nat.le_refl _))
        have HBB6 : Hid (Below W.heap.size W wr) := Writes.below HBB5.out HW.out (by omega)
        clear HO HW HT5 HBB5 HC5 hkn
        obtain ⟨ui2, uc2, ⟨q0, q1, q2, q3, q4⟩, htf⟩ : ∃ ui uc, CTx wr tb (toff + j * 5) ⟨(E.T j).id, (E.T j).am, (E.T j).st, E.ck + 1, (E.T j).n, (E.T j).U⟩ ui uc ∧ ∀ i, wr.frozen? ⟨tb, i, none⟩ = false := by
          obtain ⟨-, k1 | ⟨tb2, toff2, ha, -, -, hf2, l2, hh2, -, hc2⟩⟩ := HT6.out
          · omega
          simp only [Option.some.injEq, Addr.mk.injEq, and_true] at ha
          obtain ⟨rfl, rfl⟩ := ha
          obtain ⟨-, -, ui2, uc2, hq, -, hq2⟩ := hc2 j hj
          exact ⟨ui2, uc2, by first | exact hq | (rw [upf_eq] at hq; exact hq), hf2⟩
        obtain ⟨S7, hS7⟩ : ∃ x, x = (wr.setCell ⟨tb, toff + j * 5 + 2, none⟩ (.int .i64 2)).setCell ⟨tb, toff + j * 5 + 4, none⟩ (.slice none 0 0) := ⟨_, rfl⟩
        have q4' : (wr.setCell ⟨tb, toff + j * 5 + 2, none⟩ (.int .i64 2)).cell? ⟨tb, toff + j * 5 + 4, none⟩ = some (.slice ui2 (E.T j).n uc2) := (setO (by omega)).trans q4
        have hw7 : Writes tb (tb + 1) wr S7 := by
          rw [hS7]
          exact Writes.setCell (Writes.setCell (Writes.refl _ _ _) (p := ⟨tb, toff + j * 5 + 2, none⟩) (Nat.le_refl _) (Nat.lt_succ_self _) _) (p := ⟨tb, toff + j * 5 + 4, none⟩) (Nat.le_refl _) (Nat.lt_succ_self _) _
        have hz7 : S7.heap.size = wr.heap.size := by rw [hS7]; simp [World.setCell]
        have z7 : S7.cell? ⟨tb, toff + j * 5 + 3, none⟩ = some (.int .i64 (E.ck + 1)) := by rw [hS7, setO (by omega), setO (by omega)]; exact q3
        have HTz : Hid (OwnTx S7 b0' M (some ⟨tb, toff, none⟩) (cmY E j).p (cmY E j).T) := by
          refine (HT6.out.put (t := ⟨(E.T j).id, (E.T j).am, 2, E.ck + 1, 0, (E.T j).U⟩) (ui := none) (uc := 0) hj hw7 (fun o' ho => by rw [hS7, setO (by omega), setO (by omega)]) (fun i => by rw [hS7, World.frozen?_setCell, World.frozen?_setCell]) ⟨?_, ?_, ?_, z7, ?_⟩ rfl).congr fun i hi => ?_
          · rw [hS7, setO (by omega), setO (by omega)]; exact q0
          · rw [hS7, setO (by omega), setO (by omega)]; exact q1
          · rw [hS7, setO (by omega)]; exact setS q2
          · rw [hS7]; exact setS q4'
          · show upf _ j _ i = upf E.T j _ i
            by_cases e : i = j
            · subst e; simp only [upf_eq]
            · simp only [upf_ne _ _ e]
        have HOz : Hid (OwnRw S7 M w2.heap.size va' (cmY E j).q (cmY E j).R) := HO6.out.writes hw7 (.inr (by omega))
        have HBz : Hid (Below W.heap.size W S7) := Writes.below HBB6.out hw7 (by omega)
        have HCz : Hid (Box4 S7 w2.heap.size (.int .i64 E.nx) (.int .i64 (E.ck + 1)) (.slice (some ⟨tb, toff, none⟩) E.p vc) (.slice va' E.q vc')) := HC6.out.writes hw7 (.inr (by omega))
        clear HCW
        go_upto_region 18 with fail
        rw [← hS7]
        clear hS7 hw7 q0 q1 q2 q3 q4 q4' htf
        obtain ⟨c0, c1, c2, c3⟩ := HCz.out
        obtain ⟨r0, r1, r2, r3, r4, r5⟩ := HR6.out.below HBz.out
        have rf : ∀ i, S7.frozen? ⟨w.heap.size + 1, i, none⟩ = false := fun i => ((bcell2 HBz.out).2 _ _ (by omega)).trans (HRF.out i)
        have HF : Hid (∀ w7, Writes (w.heap.size + 1) (w.heap.size + 2) S7 w7 → w7.heap.size = S7.heap.size → ERes (ctC E id) (ctV E id) (ctE E id) w (.returned (.agg #[.int .i64 0, .int .i64 (E.ck + 1), .int .i64 E.nx, .int .i64 (E.ck + 1), .slice (some ⟨tb, toff, none⟩) E.p vc, .slice va' E.q vc'])) w7) := fun w7 hw hs7 => by
          rw [HE.out.1, HE.out.2.1, HE.out.2.2]
          exact eres_own (E' := cmY E j) (below_then HBW.out HBz.out) (by omega) (by omega) hM hMz (by omega) (by omega) HTz.out HOz.out hw hs7
        clear HTz HOz HCz
        go_region
        all_goals
          go_wp2_with fail
          refine bodyPost_ret (v := .agg #[.int .i64 0, .int .i64 (E.ck + 1), .int .i64 E.nx, .int .i64 (E.ck + 1), .slice (some ⟨tb, toff, none⟩) E.p vc, .slice va' E.q vc']) (by simp [results, Try.results51, go_sem, *]) rfl ?_
          refine HF.out _ ?_ (by simp [World.setCell])
          repeat (first | with_reducible exact Writes.refl _ _ _ | with_reducible apply Writes.drew1 | with_reducible refine Writes.setCell ?_ (by first | omega | (simp <;> omega)) (by first | omega | (simp <;> omega)) _)

  · have hn0 : ¬ ((0 : Int) < ((E.T j).n : Int)) := by omega
    have HE : Hid (ctC E id = 0 ∧ ctV E id = (E.T j).dn ∧ ctE E id = cmN E j) := ct_no HHC.out HHP.out hn
    have HO6 : Hid (OwnRw W3 M w2.heap.size va' (cmN E j).q (cmN E j).R) := HO3
    clear hfull y0 y1 y2 y3 htf
    obtain ⟨ui2, uc2, ⟨q0, q1, q2, q3, q4⟩, htf⟩ : ∃ ui uc, CTx W3 tb (toff + j * 5) ⟨(E.T j).id, (E.T j).am, (E.T j).st, (E.T j).dn, (E.T j).n, (E.T j).U⟩ ui uc ∧ ∀ i, W3.frozen? ⟨tb, i, none⟩ = false := by
      obtain ⟨-, k1 | ⟨tb2, toff2, ha, -, -, hf2, l2, hh2, -, hc2⟩⟩ := HT3.out
      · omega
      simp only [Option.some.injEq, Addr.mk.injEq, and_true] at ha
      obtain ⟨rfl, rfl⟩ := ha
      obtain ⟨-, -, ui2, uc2, hq, -, hq2⟩ := hc2 j hj
      exact ⟨ui2, uc2, by first | exact hq | (rw [upf_eq] at hq; exact hq), hf2⟩
    obtain ⟨S7, hS7⟩ : ∃ x, x = (W3.setCell ⟨tb, toff + j * 5 + 2, none⟩ (.int .i64 2)).setCell ⟨tb, toff + j * 5 + 4, none⟩ (.slice none 0 0) := ⟨_, rfl⟩
    have q4' : (W3.setCell ⟨tb, toff + j * 5 + 2, none⟩ (.int .i64 2)).cell? ⟨tb, toff + j * 5 + 4, none⟩ = some (.slice ui2 (E.T j).n uc2) := (setO (by omega)).trans q4
    have hw7 : Writes tb (tb + 1) W3 S7 := by
      rw [hS7]
      exact Writes.setCell (Writes.setCell (Writes.refl _ _ _) (p := ⟨tb, toff + j * 5 + 2, none⟩) (Nat.le_refl _) (Nat.lt_succ_self _) _) (p := ⟨tb, toff + j * 5 + 4, none⟩) (Nat.le_refl _) (Nat.lt_succ_self _) _
    have hz7 : S7.heap.size = W3.heap.size := by rw [hS7]; simp [World.setCell]
    have z7 : S7.cell? ⟨tb, toff + j * 5 + 3, none⟩ = some (.int .i64 ((E.T j).dn)) := by rw [hS7, setO (by omega), setO (by omega)]; exact q3
    have HTz : Hid (OwnTx S7 b0' M (some ⟨tb, toff, none⟩) (cmN E j).p (cmN E j).T) := by
      refine (HT3.out.put (t := ⟨(E.T j).id, (E.T j).am, 2, (E.T j).dn, 0, (E.T j).U⟩) (ui := none) (uc := 0) hj hw7 (fun o' ho => by rw [hS7, setO (by omega), setO (by omega)]) (fun i => by rw [hS7, World.frozen?_setCell, World.frozen?_setCell]) ⟨?_, ?_, ?_, z7, ?_⟩ rfl).congr fun i hi => ?_
      · rw [hS7, setO (by omega), setO (by omega)]; exact q0
      · rw [hS7, setO (by omega), setO (by omega)]; exact q1
      · rw [hS7, setO (by omega)]; exact setS q2
      · rw [hS7]; exact setS q4'
      · show upf _ j _ i = upf E.T j _ i
        by_cases e : i = j
        · subst e; simp only [upf_eq]
        · simp only [upf_ne _ _ e]
    have HOz : Hid (OwnRw S7 M w2.heap.size va' (cmN E j).q (cmN E j).R) := HO6.out.writes hw7 (.inr (by omega))
    have HBz : Hid (Below W.heap.size W S7) := Writes.below HB3.out hw7 (by omega)
    have HCz : Hid (Box4 S7 w2.heap.size (.int .i64 E.nx) (.int .i64 (E.ck)) (.slice (some ⟨tb, toff, none⟩) E.p vc) (.slice va' E.q vc')) := HC3.out.writes hw7 (.inr (by omega))
    clear HCW
    go_upto_region 18 with fail
    rw [← hS7]
    clear hS7 hw7 q0 q1 q2 q3 q4 q4' htf
    obtain ⟨c0, c1, c2, c3⟩ := HCz.out
    obtain ⟨r0, r1, r2, r3, r4, r5⟩ := HR6.out.below HBz.out
    have rf : ∀ i, S7.frozen? ⟨w.heap.size + 1, i, none⟩ = false := fun i => ((bcell2 HBz.out).2 _ _ (by omega)).trans (HRF.out i)
    have HF : Hid (∀ w7, Writes (w.heap.size + 1) (w.heap.size + 2) S7 w7 → w7.heap.size = S7.heap.size → ERes (ctC E id) (ctV E id) (ctE E id) w (.returned (.agg #[.int .i64 0, .int .i64 ((E.T j).dn), .int .i64 E.nx, .int .i64 (E.ck), .slice (some ⟨tb, toff, none⟩) E.p vc, .slice va' E.q vc'])) w7) := fun w7 hw hs7 => by
      rw [HE.out.1, HE.out.2.1, HE.out.2.2]
      exact eres_own (E' := cmN E j) (below_then HBW.out HBz.out) (by omega) (by omega) hM hMz (by omega) (by omega) HTz.out HOz.out hw hs7
    clear HTz HOz HCz
    go_region
    all_goals
      go_wp2_with fail
      refine bodyPost_ret (v := .agg #[.int .i64 0, .int .i64 ((E.T j).dn), .int .i64 E.nx, .int .i64 (E.ck), .slice (some ⟨tb, toff, none⟩) E.p vc, .slice va' E.q vc']) (by simp [results, Try.results51, go_sem, *]) rfl ?_
      refine HF.out _ ?_ (by simp [World.setCell])
      repeat (first | with_reducible exact Writes.refl _ _ _ | with_reducible apply Writes.drew1 | with_reducible refine Writes.setCell ?_ (by first | omega | (simp <;> omega)) (by first | omega | (simp <;> omega)) _)

end Go.Proofs.Ytblhnhmcdbfhiaa
