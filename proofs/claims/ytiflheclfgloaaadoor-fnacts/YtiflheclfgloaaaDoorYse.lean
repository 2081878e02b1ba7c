/- The program's machine of words. -/
import Derived.Test.YtiflheclfgloaaaDoorYsd
import Derived.Test.YtiflheclfgloaaaDoorFind
namespace Go.Proofs.YtiflheclfgloaaaDoor
open Go.RowKit Go.Deep
set_option linter.unusedVariables false
set_option maxRecDepth 20000

def iY : Value → Int | .int _ q => q | _ => 0
/-- Behind how many bytes the machine stands, its words so far, what is to come. -/
def YJ0 (s : ByteArray) (w : World) (a' : Act) (w' : World) : Prop :=
  ∃ (p : Nat) (O : List ByteArray) (v u5 u6 u7 u8 u9 u10 u11 u12 u13 u14 u15 u16 u17 u18 u19 u20 u21 u22 u23 u24 u25 u26 u27 u28 u29 u30 u31 u32 u33 u34 u35 u36 : Value), a' = { tmps := #[.string s, undef, .slice none 0 0, v, .int .i64 p, u5, u6, u7, u8, u9, u10, u11, u12, u13, u14, u15, u16, u17, u18, u19, u20, u21, u22, u23, u24, u25, u26, u27, u28, u29, u30, u31, u32, u33, u34, u35, u36], defers := [] } ∧
    p ≤ s.size ∧ Hid (Below w.heap.size w w') ∧ Hid (w'.ownsRow w.heap.size 9 1 v O.length (svl O)) ∧ Hid (O ++ fe (pcs s 32 p p) = wds s)
def YJ1 (s : ByteArray) (w : World) (a' : Act) (w' : World) : Prop :=
  ∃ (f p : Nat) (O : List ByteArray) (v u6 u7 u8 u9 u10 u11 u12 u13 u14 u15 u16 u17 u18 u19 u20 u21 u22 u23 u24 u25 u26 u27 u28 u29 u30 u31 u32 u33 u34 u35 u36 : Value), a' = { tmps := #[.string s, undef, .slice none 0 0, v, .int .i64 p, .int .i64 f, u6, u7, u8, u9, u10, u11, u12, u13, u14, u15, u16, u17, u18, u19, u20, u21, u22, u23, u24, u25, u26, u27, u28, u29, u30, u31, u32, u33, u34, u35, u36], defers := [] } ∧
    f < p ∧ p ≤ s.size ∧ Hid (Below w.heap.size w w') ∧ Hid (w'.ownsRow w.heap.size 9 1 v O.length (svl O)) ∧ Hid (O ++ fe (pcs s 32 f p) = wds s)
def ym0 (s : ByteArray) (a : Act) (w : World) : Nat := 2 * (s.size - (iY (a.tmps.getD 4 undef)).toNat)
def ym1 (s : ByteArray) (a : Act) (w : World) : Nat := 2 * (s.size - (iY (a.tmps.getD 4 undef)).toNat) + 1
set_option maxHeartbeats 1000000 in
theorem wordsOf_any (s : ByteArray) (w : World) (hn : s.size ≤ 1048576) :
    Calls Tryd.prog 17 #[.string s] w fun e w' => ∃ v, e = .returned v ∧ Below w.heap.size w w' ∧ w'.ownsRow w.heap.size 9 1 v (wds s).length (svl (wds s)) := by
  obtain ⟨i0, hi, hz0, hz1, hz2⟩ := info_partsY info9
  have HI : Hid (Tryd.prog.info? 9 = some i0 ∧ i0.zero = some (.string ByteArray.empty) ∧ i0.size = 1 ∧ i0.bytes = 16) := ⟨hi, hz0, hz1, hz2⟩
  clear hi hz0 hz1 hz2
  go_enter Tryd.func17, Tryd.ntmps17
  go_wp2_with fail
  refine scope_two (YJ0 s w) (YJ1 s w) (ym0 s) (ym1 s) rfl rfl ?_ ?_ ?_
  · by_cases hz : s.size = 0
    · have hpi : (0 : Int) = (s.size : Int) := by omega
      have HR : Hid (w.ownsRow w.heap.size 9 1 (.slice none 0 0) (wds s).length (svl (wds s))) := by
        have e : wds s = [] := by have h := fe_none (s := s); rw [hz] at h; unfold wds; exact h
        rw [e]
        exact World.ownsRow_nil _ _ _ _
      clear hz
      go_wp2_with fail
      go_step3
      go_wp2_with fail
      try simp only [goTo]
      go_ret
      exact ⟨_, rfl, Below.refl _ _, HR.out⟩
    · have hlt : 0 < s.size := by omega
      have hpi : ((0 : Int) == (s.size : Int)) = false := by simp; omega
      have hlt' : (0 : Int) < (s.size : Int) := by omega
      have hgd : decide ((0 : Int) < (s.size : Int)) = true := by simp; omega
      have hbt := bt_at s 0 hlt
      have HB0 : Hid (Below w.heap.size w w) := Below.refl _ _
      have HO0 : Hid (w.ownsRow w.heap.size 9 1 (.slice none 0 0) ([] : List ByteArray).length (svl [])) := World.ownsRow_nil _ _ _ _
      by_cases hbl : bt s 0 = 32
      · have HE2 : Hid ([] ++ fe (pcs s 32 (0 + 1) (0 + 1)) = wds s) := by show fe (pcs s 32 (0 + 1) (0 + 1)) = fe (pcs s 32 0 0); rw [fe_skip hlt hbl]
        go_wp2_with fail
        go_step3
        go_wp2_with fail
        go_step3
        exact ⟨1, [], _, _, _, _, _, _, _, _, _, _, _, _, _, _, _, _, _, _, _, _, _, _, _, _, _, _, _, _, _, _, _, _, _, rfl, hlt, HB0, HO0, HE2⟩
      · have HE2 : Hid ([] ++ fe (pcs s 32 0 (0 + 1)) = wds s) := by show fe (pcs s 32 0 (0 + 1)) = fe (pcs s 32 0 0); rw [fe_on hlt hbl]
        have hbl2 : (bt s 0 == 32) = false := by simp; omega
        have hbl3 : (bt s 0 != 32) = true := by simp; omega
        go_wp2_with fail
        go_step3
        go_wp2_with fail
        go_step3
        go_wp2_with fail
        go_step3
        exact ⟨0, 1, [], _, _, _, _, _, _, _, _, _, _, _, _, _, _, _, _, _, _, _, _, _, _, _, _, _, _, _, _, _, _, _, _, rfl, Nat.zero_lt_one, hlt, HB0, HO0, HE2⟩
  · rintro a' w' ⟨p, O, v, u5, u6, u7, u8, u9, u10, u11, u12, u13, u14, u15, u16, u17, u18, u19, u20, u21, u22, u23, u24, u25, u26, u27, u28, u29, u30, u31, u32, u33, u34, u35, u36, rfl, hp, HB, HO, HE⟩
    by_cases hpn : p = s.size
    · have hpi : (p : Int) = (s.size : Int) := by omega
      subst hpn
      have HR : Hid (w'.ownsRow w.heap.size 9 1 v (wds s).length (svl (wds s))) := by
        have h := HE.out
        rw [fe_none, List.append_nil] at h
        rw [← h]
        exact HO.out
      clear HE HO
      go_wp2_with fail
      try simp only [goTo]
      go_ret
      exact ⟨_, rfl, HB.out, HR.out⟩
    · have hlt : p < s.size := by omega
      have hpi : ¬ (p : Int) = (s.size : Int) := by omega
      have hlt' : (p : Int) < (s.size : Int) := by omega
      have hgd : decide ((p : Int) < (s.size : Int)) = true := by simp; omega
      have h0 : (0 : Int) ≤ (p : Int) := by omega
      have hbt := bt_at s p hlt
      by_cases hbl : bt s p = 32
      · have HE2 : Hid (O ++ fe (pcs s 32 (p + 1) (p + 1)) = wds s) := by have h := HE.out; rw [fe_skip hlt hbl] at h; exact h
        clear HE
        go_wp2_with fail
        go_step3
        exact ⟨⟨p + 1, O, v, _, _, _, _, _, _, _, _, _, _, _, _, _, _, _, _, _, _, _, _, _, _, _, _, _, _, _, _, _, _, _, _, rfl, hlt, HB, HO, HE2⟩, by simp [twoM, iY, ym0]; omega⟩
      · have HE2 : Hid (O ++ fe (pcs s 32 p (p + 1)) = wds s) := by have h := HE.out; rw [fe_on hlt hbl] at h; exact h
        clear HE
        go_wp2_with fail
        go_step3
        go_wp2_with fail
        go_step3
        exact ⟨⟨p, p + 1, O, v, _, _, _, _, _, _, _, _, _, _, _, _, _, _, _, _, _, _, _, _, _, _, _, _, _, _, _, _, _, _, _, rfl, Nat.lt_succ_self _, hlt, HB, HO, HE2⟩, by simp [twoM, iY, ym0, ym1]; omega⟩
  · rintro a' w' ⟨f, p, O, v, u6, u7, u8, u9, u10, u11, u12, u13, u14, u15, u16, u17, u18, u19, u20, u21, u22, u23, u24, u25, u26, u27, u28, u29, u30, u31, u32, u33, u34, u35, u36, rfl, hfp, hp, HB, HO, HE⟩
    by_cases hpn : p = s.size
    · have hgd : decide ((p : Int) < (s.size : Int)) = false := by simp; omega
      have hfe : fe (pcs s 32 f p) = s.extract f p :: fe (pcs s 32 p p) := by subst hpn; exact fe_end hfp
      have h0 : (0 : Int) ≤ (f : Int) := by omega
      have h1 : (f : Int) ≤ (p : Int) := by omega
      have h2 : (p : Int) ≤ (s.size : Int) := by omega
      have hpi : ¬ (p : Int) < (s.size : Int) := by omega
      clear hpn
      have HE2 : Hid ((O ++ [s.extract f p]) ++ fe (pcs s 32 p p) = wds s) := by
        have h := HE.out
        rw [hfe] at h
        rw [List.append_assoc]
        exact h
      have hlen : O.length ≤ 1048577 := by
        have h1 := congrArg List.length HE.out
        have h2 := wds_len s
        rw [List.length_append] at h1
        omega
      clear HE
      go_wp2_with (at_builtin; refine wpList_append_own _ rfl (.tmp 30) (.tmp 35) 42 rfl w.heap.size 9 i0 (.string ByteArray.empty) 1 16 Tryd.underlying42 HI.out.1 HI.out.2.1 HI.out.2.2.1 HI.out.2.2.2 rfl (by decide) _ O.length (svl O) rfl (HO.out.alloc _) ⟨w'.heap.size, 0, none⟩ 1 1 [.string (s.extract f p)] rfl rfl (cell_one_new _ _ _) (one_str _) ?c3 ?c4 ?c5 ?_)
      case c3 => unfold maxLen; omega
      case c4 => omega
      case c5 => have := HB.out.size; first | omega | (rw [World.size_alloc]; omega)
      intro v1 w1 ho1 hg1 _
      have HO1 : Hid (w1.ownsRow w.heap.size 9 1 v1 (O ++ [s.extract f p]).length (svl (O ++ [s.extract f p]))) := by rw [svl_app, List.length_append]; exact ho1
      have HB1 : Hid (Below w.heap.size w w1) := Below.grown (HB.out.alloc HB.out.size _) hg1 (by rw [World.size_alloc]; have := HB.out.size; omega) (fun q hq => by have := (HO.out.lt q hq).1; omega)
      clear ho1 hg1
      go_wp2_with fail
      go_step3
      refine ⟨⟨p, O ++ [s.extract f p], v1, _, _, _, _, _, _, _, _, _, _, _, _, _, _, _, _, _, _, _, _, _, _, _, _, _, _, _, _, _, _, _, _, rfl, hp, HB1, HO1, HE2⟩, ?_⟩
      simp [twoM, iY, ym0, ym1]
    · have hlt : p < s.size := by omega
      have hlt' : (p : Int) < (s.size : Int) := by omega
      have hgd : decide ((p : Int) < (s.size : Int)) = true := by simp; omega
      have h0 : (0 : Int) ≤ (f : Int) := by omega
      have h1 : (f : Int) ≤ (p : Int) := by omega
      have h2 : (p : Int) ≤ (s.size : Int) := by omega
      have h3 : (0 : Int) ≤ (p : Int) := by omega
      have hbt := bt_at s p hlt
      by_cases hbl : bt s p = 32
      · have hfe := fe_cut hlt hbl hfp
        have HE2 : Hid ((O ++ [s.extract f p]) ++ fe (pcs s 32 p p) = wds s) := by
          have h := HE.out
          rw [hfe] at h
          rw [List.append_assoc]
          exact h
        have hlen : O.length ≤ 1048577 := by
          have h1 := congrArg List.length HE.out
          have h2 := wds_len s
          rw [List.length_append] at h1
          omega
        clear HE
        go_wp2_with (at_builtin; refine wpList_append_own _ rfl (.tmp 30) (.tmp 35) 42 rfl w.heap.size 9 i0 (.string ByteArray.empty) 1 16 Tryd.underlying42 HI.out.1 HI.out.2.1 HI.out.2.2.1 HI.out.2.2.2 rfl (by decide) _ O.length (svl O) rfl (HO.out.alloc _) ⟨w'.heap.size, 0, none⟩ 1 1 [.string (s.extract f p)] rfl rfl (cell_one_new _ _ _) (one_str _) ?c3 ?c4 ?c5 ?_)
        case c3 => unfold maxLen; omega
        case c4 => omega
        case c5 => have := HB.out.size; first | omega | (rw [World.size_alloc]; omega)
        intro v1 w1 ho1 hg1 _
        have HO1 : Hid (w1.ownsRow w.heap.size 9 1 v1 (O ++ [s.extract f p]).length (svl (O ++ [s.extract f p]))) := by rw [svl_app, List.length_append]; exact ho1
        have HB1 : Hid (Below w.heap.size w w1) := Below.grown (HB.out.alloc HB.out.size _) hg1 (by rw [World.size_alloc]; have := HB.out.size; omega) (fun q hq => by have := (HO.out.lt q hq).1; omega)
        clear ho1 hg1
        go_wp2_with fail
        go_step3
        refine ⟨⟨p, O ++ [s.extract f p], v1, _, _, _, _, _, _, _, _, _, _, _, _, _, _, _, _, _, _, _, _, _, _, _, _, _, _, _, _, _, _, _, _, rfl, hp, HB1, HO1, HE2⟩, ?_⟩
        simp [twoM, iY, ym0, ym1]
      · have HE2 : Hid (O ++ fe (pcs s 32 f (p + 1)) = wds s) := by have h := HE.out; rw [fe_on hlt hbl] at h; exact h
        have hg2 : (bt s p != 32) = true := by simp; omega
        clear HE
        go_wp2_with fail
        go_step3
        refine ⟨⟨f, p + 1, O, v, _, _, _, _, _, _, _, _, _, _, _, _, _, _, _, _, _, _, _, _, _, _, _, _, _, _, _, _, _, _, _, rfl, by omega, hlt, HB, HO, HE2⟩, ?_⟩
        simp [twoM, iY, ym1]; omega
end Go.Proofs.YtiflheclfgloaaaDoor
