/- Edges: those of a key: the program. -/
import Derived.Test.YtnmmnhfgkcdajaaEdd
namespace Go.Proofs.Ytnmmnhfgkcdajaa
open Go.RowKit Go.Deep
set_option linter.unusedVariables false
set_option maxRecDepth 20000

def rdB (R : Nat → Hp) (cm : List Int) (y : Int) (k : Nat) : Bool := (R k).k == 2 && (R k).y == y && decide ((R k).t ∈ cm)
def eH (R : Nat → Hp) (cm ws : List Int) (y : Int) : Nat → List Ed
  | 0 => []
  | k + 1 => eH R cm ws y k ++ (if rdB R cm y k = true then eR (R k) cm ws else [])
theorem eH_len (R : Nat → Hp) (cm ws : List Int) (y : Int) : ∀ k, (eH R cm ws y k).length ≤ 2 * k
  | 0 => by simp [eH]
  | k + 1 => by
    have := eH_len R cm ws y k
    have := eR_len (R k) cm ws
    simp only [eH, List.length_append]
    split
    · omega
    · simp; omega
/-- The edges of a key. -/
def eA (R : Nat → Hp) (n : Nat) (cm : List Int) (y : Int) : List Ed := eW (wrL R n y cm) ((wrL R n y cm).length - 1) ++ eH R cm (wrL R n y cm) y n
theorem rows_apart {w : World} {B1 B2 n1 n2 : Nat} {v1 v2 : Value} {xs1 xs2 : List Value} (h1 : w.ownsRow B1 2 1 v1 n1 xs1) (h2 : w.ownsRow B2 61 3 v2 n2 xs2) : ∀ q, v1.ownBlock = some q → v2.ownBlock ≠ some q := by
  intro q e1 e2
  rcases h1.2 with ⟨rfl, _⟩ | ⟨g, cap, cur, rfl, _, hg, _⟩
  · simp [Value.ownBlock] at e1
  · rcases h2.2 with ⟨rfl, _⟩ | ⟨g2, cap2, cur2, rfl, _, hg2, _⟩
    · simp [Value.ownBlock] at e2
    · simp only [Value.ownBlock, Option.some.injEq] at e1 e2
      subst e1
      subst e2
      rw [hg] at hg2
      simp at hg2
theorem ints_grown {w w' : World} {B1 B2 n1 n2 : Nat} {v1 v2 : Value} {xs1 xs2 : List Value} (h1 : w.ownsRow B1 2 1 v1 n1 xs1) (h2 : w.ownsRow B2 61 3 v2 n2 xs2) (hg : w.grownBy w' v2.ownBlock) : w'.ownsRow B1 2 1 v1 n1 xs1 :=
  ownI_keep h1 fun q hq => hg.block q (ownI_lt h1 q hq).2 fun e => rows_apart h1 h2 q hq e.symm
set_option maxHeartbeats 8000000 in
theorem edgesAt_any (n : Nat) (R : Nat → Hp) (cm : List Int) (a ca : Option Addr) (cap cc : Nat) (y : Int) (w : World) (hn : n ≤ 400) (hhi : hiF R n = 0) (hl : cm.length ≤ 400) (h : HopsAt w a n R) (hi : IntsAt w ca cm.length (zI cm)) :
    Calls Try.prog 63 #[.slice a n cap, .slice ca cm.length cc, .int .i64 y] w (ERs (eA R n cm y) w) := by
  have HX : Hid (HopsAt w a n R) := h
  have HI : Hid (IntsAt w ca cm.length (zI cm)) := hi
  have HCM : Hid (cm.length ≤ 400) := hl
  have HWA := writersAmong_any n R cm a ca cap cc y w (by omega) hhi hl h hi
  clear h hi hhi hl
  go_enter Try.func63, Try.ntmps63
  go_wp2_with fail
  refine HWA.mono ?_
  clear HWA
  rintro e w1 ⟨v, rfl, hb1, ho1⟩
  have HWL : Hid ((wrL R n y cm).length ≤ 400) := Nat.le_trans (wrL_len R n y cm) HCM.out
  have HEA : Hid (eA R n cm y = eW (wrL R n y cm) ((wrL R n y cm).length - 1) ++ eH R cm (wrL R n y cm) y n) := rfl
  generalize wrL R n y cm = ws at *
  obtain ⟨wa, wc, rfl⟩ := row1_slice ho1
  have hwc := own_capN ho1
  obtain ⟨wa', wc', hwe, hoi⟩ := ownI_of_row ho1
  obtain ⟨rfl, rfl⟩ : wa' = wa ∧ wc' = wc := by injection hwe with e1 e2 e3; exact ⟨e1.symm, e3.symm⟩
  have HEW := edgesOfWriters_any ws wa' wc' w1 (by have := HWL.out; omega) hoi.at
  clear hwe hoi
  have HWC : Hid (ws.length ≤ wc') := hwc
  clear hwc
  go_wp2_with fail
  refine HEW.mono ?_
  clear HEW
  rintro e w2 ⟨u, rfl, hb2, ho2⟩
  obtain ⟨ua, uc, rfl⟩ := rowE_slice ho2
  have HB2 : Hid (Below w.heap.size w w2) := below_then hb1 hb2
  have HW2 : Hid (w2.ownsRow w.heap.size 2 1 (.slice wa' ws.length wc') ws.length (il ws)) := own_belowI ho1 hb2
  have HE2 : Hid (OwnE w2 w.heap.size (.slice ua (eW ws (ws.length - 1)).length uc) (eW ws (ws.length - 1) ++ eH R cm ws y 0)) := by
    show OwnE _ _ _ _
    rw [show eH R cm ws y 0 = [] from rfl, List.append_nil]
    exact own_down ho2 hb1.size
  have HEL : Hid ((eW ws (ws.length - 1)).length ≤ 400) := by have := HWL.out; show _ ≤ _; rw [eW_len]; omega
  clear hb1 hb2 ho1 ho2
  generalize eW ws (ws.length - 1) = ew at *
  go_wp2_with fail
  go_loopw [8, 10, 19] (fun v _ i wr => ∃ k : Nat, k ≤ n ∧ i = .int .i64 k ∧ Hid (Below w.heap.size w wr) ∧ Hid (wr.ownsRow w.heap.size 2 1 (.slice wa' ws.length wc') ws.length (il ws)) ∧ Hid (OwnE wr w.heap.size v (ew ++ eH R cm ws y k))) (fun _ _ i _ => n - (intOf i).toNat)
  case atStart => exact ⟨0, Nat.zero_le _, rfl, HB2, HW2, HE2⟩
  case round =>
    clear HB2 HW2 HE2
    obtain ⟨k, hk, rfl, HB, HWS, HO⟩ := hrel
    by_cases hlt : k < n
    · have hlt' : (k : Int) < (n : Int) := by omega
      have hk0 : (0 : Int) ≤ (k : Int) := by omega
      have hk4 : k ≤ 400 := by omega
      rcases HX.out.below HB.out with h | ⟨bb, off, rfl, hlb, hcc⟩
      · omega
      obtain ⟨x0, x1, x2, x3⟩ := hcc k hlt
      clear hcc
      have HCI : Hid (∀ o, IntsAt (wr.alloc o) ca cm.length (zI cm)) := fun o => HI.out.below (below_then HB.out (below_new _ _))
      have HBA : Hid (∀ o, Below w.heap.size w (wr.alloc o)) := fun o => below_then HB.out (below_new _ _)
      have HWA : Hid (∀ o, (wr.alloc o).ownsRow w.heap.size 2 1 (.slice wa' ws.length wc') ws.length (il ws)) := fun o => own_belowI HWS.out (below_new _ _)
      have HOA : Hid (∀ o, OwnE (wr.alloc o) w.heap.size _ (ew ++ eH R cm ws y k)) := fun o => own_belowI HO.out (below_new _ _)
      have HNO : Hid (rdB R cm y k = false → eH R cm ws y (k + 1) = eH R cm ws y k) := fun e => by
        have h9 : eH R cm ws y (k + 1) = eH R cm ws y k ++ (if rdB R cm y k = true then eR (R k) cm ws else []) := rfl
        rw [h9, e]; simp
      have HYS : Hid (rdB R cm y k = true → eH R cm ws y (k + 1) = eH R cm ws y k ++ eR (R k) cm ws) := fun e => by
        have h9 : eH R cm ws y (k + 1) = eH R cm ws y k ++ (if rdB R cm y k = true then eR (R k) cm ws else []) := rfl
        rw [h9, if_pos e]
      have HRB : Hid (rdB R cm y k = ((R k).k == 2 && (R k).y == y && decide ((R k).t ∈ cm))) := rfl
      have HLK : Hid ((ew ++ eH R cm ws y k).length + (eR (R k) cm ws).length ≤ 100000) := by
        have h1 := eH_len R cm ws y k
        have h2 := eR_len (R k) cm ws
        have h3 := HEL.out
        show _ ≤ _
        rw [List.length_append]; omega
      have HHC : Hid (∀ v wv, IntsAt wv ca cm.length (zI cm) → Calls Try.prog 70 #[.slice ca cm.length cc, .int .i64 v] wv fun e w' => e = .returned (.bool (decide (v ∈ cm))) ∧ w' = wv) := fun v wv h => containsI_any cm ca cc v wv (by have := HCM.out; omega) h
      have HER : Hid (∀ wv, IntsAt wv ca cm.length (zI cm) → IntsAt wv wa' ws.length (zI ws) → Calls Try.prog 71 #[.agg #[.int .i64 (R k).k, .int .i64 (R k).t, .int .i64 (R k).y, .int .i64 (R k).o], .slice ca cm.length cc, .slice wa' ws.length wc'] wv (ERs (eR (R k) cm ws) wv)) := fun wv h1 h2 => edgesOfRead_any (R k) cm ws ca wa' cc wc' wv (by have := HCM.out; omega) (by have := HWL.out; omega) HWC.out h1 h2
      generalize R k = r at *
      obtain ⟨y0, y1, y2, y3⟩ := Box4.new wr (.int .i64 r.k) (.int .i64 r.t) (.int .i64 r.y) (.int .i64 r.o) 50
      obtain h1 | h1 := boolor (r.k == 2)
      case inr =>
        have HE := HNO.out (by rw [HRB.out, h1]; rfl)
        clear HNO HYS HRB
        go_wp2_with fail
        go_roundw
        case rel => exact ⟨k + 1, hlt, by go_num, HBA.out _, HWA.out _, by rw [HE]; exact HOA.out _⟩
        case measure => simp [intOf]; omega
      obtain h2 | h2 := boolor (r.y == y)
      case inr =>
        have HE := HNO.out (by rw [HRB.out, h1, h2]; rfl)
        clear HNO HYS HRB
        go_wp2_with fail
        go_roundw
        case rel => exact ⟨k + 1, hlt, by go_num, HBA.out _, HWA.out _, by rw [HE]; exact HOA.out _⟩
        case measure => simp [intOf]; omega
      obtain h3 | h3 := boolor (decide (r.t ∈ cm))
      case inr =>
        have HE := HNO.out (by rw [HRB.out, h1, h2, h3]; rfl)
        clear HNO HYS HRB
        go_wp2_with (first | (go_at_call 70; refine (HHC.out r.t _ (HCI.out _)).mono ?_; rintro e w' ⟨rfl, hq⟩; have hq2 := hq.symm; clear hq; subst hq2))
        go_roundw
        case rel => exact ⟨k + 1, hlt, by go_num, HBA.out _, HWA.out _, by rw [HE]; exact HOA.out _⟩
        case measure => simp [intOf]; omega
      have HE : Hid (eH R cm ws y (k + 1) = eH R cm ws y k ++ eR r cm ws) := HYS.out (by rw [HRB.out, h1, h2, h3]; rfl)
      clear HNO HYS HRB HB HWS HO
      have HWI : Hid (IntsAt (wr.alloc (.cells #[.int .i64 r.k, .int .i64 r.t, .int .i64 r.y, .int .i64 r.o] 50)) wa' ws.length (zI ws)) := by
        obtain ⟨wa2, wc2, hwe, hoi⟩ := ownI_of_row (HWA.out (.cells #[.int .i64 r.k, .int .i64 r.t, .int .i64 r.y, .int .i64 r.o] 50))
        obtain ⟨rfl, rfl⟩ : wa2 = wa' ∧ wc2 = wc' := by injection hwe with e1 e2 e3; exact ⟨e1.symm, e3.symm⟩
        exact hoi.at
      go_upto_region 7 with (first | (go_at_call 70; refine (HHC.out r.t _ (HCI.out _)).mono ?_; rintro e w' ⟨rfl, hq⟩; have hq2 := hq.symm; clear hq; subst hq2))
      have HCI2 := HCI.out (.cells #[.int .i64 r.k, .int .i64 r.t, .int .i64 r.y, .int .i64 r.o] 50)
      have HBA2 := HBA.out (.cells #[.int .i64 r.k, .int .i64 r.t, .int .i64 r.y, .int .i64 r.o] 50)
      have HWA2 := HWA.out (.cells #[.int .i64 r.k, .int .i64 r.t, .int .i64 r.y, .int .i64 r.o] 50)
      have HOA2 := HOA.out (.cells #[.int .i64 r.k, .int .i64 r.t, .int .i64 r.y, .int .i64 r.o] 50)
      clear HCI HBA HWA HOA
      generalize wr.alloc (.cells #[.int .i64 r.k, .int .i64 r.t, .int .i64 r.y, .int .i64 r.o] 50) = W at *
      have HCR := HER.out W HCI2 HWI.out
      replace HBA2 : Hid (Below w.heap.size w W) := HBA2
      replace HWA2 : Hid (W.ownsRow w.heap.size 2 1 (.slice wa' ws.length wc') ws.length (il ws)) := HWA2
      replace HOA2 : Hid (OwnE W w.heap.size _ (ew ++ eH R cm ws y k)) := HOA2
      clear HCI2 HWI HER HHC x0 x1 x2 x3
      go_wp2_with fail
      refine HCR.mono ?_
      clear HCR
      rintro e w4 ⟨u4, rfl, hb4, ho4⟩
      obtain ⟨xa, xc, rfl⟩ := rowE_slice ho4
      have HX4 : Hid (EdsAt w4 xa (eR r cm ws)) := ownE_at ho4
      have HB4 : Hid (Below w.heap.size w w4) := below_then HBA2.out hb4
      have HW4 : Hid (w4.ownsRow w.heap.size 2 1 (.slice wa' ws.length wc') ws.length (il ws)) := own_belowI HWA2.out hb4
      have HO4 : Hid (OwnE w4 w.heap.size _ (ew ++ eH R cm ws y k)) := own_belowI HOA2.out hb4
      have hsz4 := HB4.out.size
      clear hb4 ho4 HBA2 HWA2 HOA2 y0 y1 y2 y3
      go_wp2_with (at_builtin; refine wpList_appE w4 rfl (.tmp 38) (.tmp 42) rfl w.heap.size _ (ew ++ eH R cm ws y k) (eR r cm ws) rfl HO4.out xa (eR r cm ws).length xc rfl rfl HX4.out HLK.out hsz4 ?_)
      intro v5 w5 ho5 hg5
      have HB5 : Hid (Below w.heap.size w w5) := HB4.out.grown hg5 hsz4 fun q hq => (ownI_lt HO4.out q hq).1
      have HW5 : Hid (w5.ownsRow w.heap.size 2 1 (.slice wa' ws.length wc') ws.length (il ws)) := ints_grown HW4.out HO4.out hg5
      have HO5 : Hid (OwnE w5 w.heap.size v5 (ew ++ eH R cm ws y (k + 1))) := by show OwnE _ _ _ _; rw [HE.out]; first | exact ho5 | (rw [← List.append_assoc]; exact ho5) | (rw [List.append_assoc] at ho5; exact ho5)
      clear ho5 hg5 HB4 HW4 HO4 HX4 HE HLK
      go_wp2_with fail
      go_roundw
      case rel => exact ⟨k + 1, hlt, by go_num, HB5, HW5, HO5⟩
      case measure => simp [intOf]; omega
    · have hkn : k = n := by omega
      have hnl : ¬ ((k : Int) < (n : Int)) := by omega
      obtain ⟨va, vc, rfl⟩ := rowE_slice HO.out
      have HF : Hid (ERs (eA R n cm y) w (.returned (.slice va (ew ++ eH R cm ws y k).length vc)) wr) := by
        show ERs _ _ _ _
        rw [HEA.out]
        exact ⟨_, rfl, HB.out, by have h := HO.out; rw [hkn] at h ⊢; exact h⟩
      clear HO HB hkn HWS
      generalize (ew ++ eH R cm ws y k).length = len at *
      go_wp2_with fail
      go_ret
      exact HF.out
end Go.Proofs.Ytnmmnhfgkcdajaa
