/- The fault of a history: both sides. -/
import Derived.Test.YtdgginfagbmooaaDoorHfa
import Derived.Maps.Own
import Derived.Maps.OwnOps
import Derived.Maps.OwnSet
import Derived.Maps.Views
namespace Go.Proofs.YtdgginfagbmooaaDoor
open Go.RowKit Go.Deep Go.Maps
set_option linter.unusedVariables false
set_option maxRecDepth 20000

theorem l10State_any (n : Nat) (R : Nat → Hp) (a : Option Addr) (cap : Nat) (t : Int) (w : World) (hn : n ≤ 1048576) (h : HopsAt w a n R) :
    Calls Tryd.prog 18 #[.slice a n cap, .int .i64 t] w fun e w' => e = .returned (.int .i64 (stK R n t)) ∧ w' = w := by
  rcases h with rfl | ⟨b, off, rfl, hbl, hc⟩
  · go_enter Tryd.func18, Tryd.ntmps18
    go_wp2_with fail
    go_loop [5, 6] (fun s i => s = .int .i64 0 ∧ i = .int .i64 0) (fun _ _ => 0)
    case atStart => exact ⟨rfl, rfl⟩
    case round =>
      obtain ⟨rfl, rfl⟩ := hrel
      go_wp2_with fail
      go_ret
      exact ⟨rfl, rfl⟩
  · exact l10State_some n R b off cap t w hn hbl hc
/-! ### the program -/
theorem ownsMap_block {H : Type} {P : Program} {k : TypeId} {R : Value → Option (DataW H × List MemPlace)} {b n : Nat} {D : DataW H} {w w' : World} (h : w.ownsMap P k R b n D) (e : w'.heap[b]? = w.heap[b]?) : w'.ownsMap P k R b n D := by
  obtain ⟨es, clock, hb, F, hs, hD⟩ := h
  exact ⟨es, clock, e.trans hb, F, hs, hD⟩
theorem keysI : Keyed Tryd.prog 2 := int_keyed Tryd.underlying2
theorem zeroI (w : World) : (zeroValue 2).run Tryd.prog w = .ok (.int .i64 0) w := by kernel_rfl
/-- What the map holds behind k hops. -/
def MapK (R : Nat → Hp) (k : Nat) (D : DataW Unit) : Prop := ∀ t : Int, D.atKey (.int .i64 t) (.lit (.int .i64 0)) = .lit (.int .i64 (lastK R k t))
theorem mapK_step {R : Nat → Hp} {k : Nat} {D : DataW Unit} (h : MapK R k D) (hD : IsMap D) : MapK R (k + 1) (D.put (.int .i64 (R k).t) (.lit (.int .i64 (R k).k))) := by
  intro t
  simp only [lastK]
  by_cases e : (R k).t = t
  · rw [if_pos e, ← e]
    exact atKey_put_same hD (by exact trivial) _ _
  · rw [if_neg e, atKey_put_other (fun x => e (by injection x with _ y; exact y.symm))]
    exact h t
set_option maxHeartbeats 4000000 in
theorem implHf_some (n : Nat) (R : Nat → Hp) (b off cap : Nat) (w : World) (hn : n ≤ 400) (hw : HpW n R) (hbl : b < w.heap.size) (hc : ∀ i, i < n → CH w b (off + i * 4) (R i)) :
    Calls Tryd.prog 13 #[.slice (some ⟨b, off, none⟩) n cap] w fun e w' => e = .returned (.int .i64 (hiF R n)) ∧ Below w.heap.size w w' := by
  have HC : Hid (∀ i, i < n → CH w b (off + i * 4) (R i)) := hc
  have HW : Hid (HpW n R) := hw
  have hmm := @run_makeMap Tryd.prog
  have hle : ¬ ((400 : Int) < (n : Int)) := by omega
  clear hc hw
  go_enter Tryd.func13, Tryd.ntmps13
  go_wp2_with fail
  clear hmm hle
  go_loopw [5, 6, 13] (fun _ _ i wr => ∃ k : Nat, k ≤ n ∧ i = .int .i64 k ∧ Hid (hiF R k = 0) ∧ Hid (Below w.heap.size w wr) ∧ w.heap.size < wr.heap.size ∧ ∃ D : DataW Unit, Hid (wr.ownsMap Tryd.prog 2 (plainElem Tryd.prog 2) w.heap.size k D) ∧ Hid (MapK R k D)) (fun _ _ i _ => n - (intOf i).toNat)
  case atStart => exact ⟨0, Nat.zero_le _, rfl, rfl, (Below.refl _ _).alloc (Nat.le_refl _) _, by simp, .map [], World.ownsMap_made _ _ _ _, fun t => rfl⟩
  case round =>
    obtain ⟨k, hk0, rfl, HZ, HB, hsz, D, HM, HK⟩ := hrel
    by_cases hlt : k < n
    · obtain ⟨x0, x1, x2, x3⟩ := (HC.out k hlt).block (HB.out.block _ hbl)
      have hlt' : (k : Int) < (n : Int) := by omega
      have hk1 : (0 : Int) ≤ (k : Int) := by omega
      have HT : Hid ((Lit.int .i64 (R k).t).wf = true) := HW.out k hlt
      have HP : Hid (∀ c, c = lastK R k (R k).t → hiF R k = 0 → (hpF (R k) c ≠ 0 → hiF R n = hpF (R k) c) ∧ (hpF (R k) c = 0 → hiF R (k + 1) = 0)) := fun c hcc h0 => by subst hcc; exact ⟨fun h => hiF_at h0 hlt h, fun h => hiF_next h0 h⟩
      have HS : Hid (IsMap D → MapK R (k + 1) (D.put (.int .i64 (R k).t) (.lit (.int .i64 (R k).k)))) := fun h => mapK_step HK.out h
      have HL : Hid (D.atKey (.int .i64 (R k).t) (.lit (.int .i64 0)) = .lit (.int .i64 (lastK R k (R k).t))) := HK.out _
      generalize R k = r at *
      go_wp2_with (first
        | (at_lookup; refine wpList_lookup_own_int _ rfl _ _ 45 rfl 2 2 .i64 keysI Tryd.underlying45 Tryd.underlying2 (zeroI _) w.heap.size k _ rfl (HM.out.alloc _) _ _ rfl (keyOf_int_mk Tryd.underlying2 HT.out) ?_; intro c hat hwc))
      refine (hopFault_any r c _).mono ?_
      rintro e w1 ⟨rfl, hb1⟩
      have hcc : c = lastK R k r.t := by have h := hat.symm.trans HL.out; injection h with h; injection h
      have BX := (Box4.new wr (.int .i64 r.k) (.int .i64 r.t) (.int .i64 r.y) (.int .i64 r.o) 34).below hb1
      have HM1 : Hid (w1.ownsMap Tryd.prog 2 (plainElem Tryd.prog 2) w.heap.size k D) := ownsMap_block (HM.out.alloc _) (hb1.block _ (by simp; omega))
      have HB1 : Hid (Below w.heap.size w w1) := below_then (below_then HB.out (below_new _ _)) hb1
      have hs1 : w.heap.size < w1.heap.size := Nat.lt_of_lt_of_le (Nat.lt_of_lt_of_le hsz (by simp)) hb1.size
      obtain ⟨g1, g2⟩ := HP.out c hcc HZ.out
      clear hb1 hat hwc HP x0 x1 x2 x3
      obtain ⟨c0, c1, c2, c3⟩ := BX
      by_cases hF : hpF r c = 0
      · have HN : Hid (hiF R (k + 1) = 0) := g2 hF
        have hkk : 1 ≤ r.k ∧ r.k ≤ 5 := by
          have h1 := (hpF_zero hF).1
          simp only [hpIn, Bool.and_eq_true, inB_iff] at h1
          omega
        clear g1 g2 hcc
        rw [hF]
        go_wp2_with (first
          | (at_mapUpdate; refine wpList_mapUpdate_own _ rfl _ _ _ 45 rfl 2 2 keysI Tryd.underlying45 _ w.heap.size k _ rfl HM1.out (by unfold maxLen; omega) _ _ _ rfl rfl (keyOf_int_mk Tryd.underlying2 HT.out) _ [] (plainElem_int Tryd.underlying2 (WalkArith.wf_i64 (by omega))) ?_; intro w2 hown2 hgrow2))
        have hnx : Below w.heap.size w w2 := HB1.out.grown hgrow2 HB1.out.size (fun j hj => by cases hj; exact Nat.le_refl _)
        have hs2 : w.heap.size < w2.heap.size := Nat.lt_of_lt_of_le hs1 hgrow2.size
        go_roundw
        case rel => exact ⟨k + 1, hlt, by go_num, HN, hnx, hs2, _, hown2, HS.out HM1.out.isMap⟩
        case measure => simp [intOf]; omega
      · have HN : Hid (hiF R n = hpF r c) := g1 hF
        clear g1 g2 hcc
        generalize hpF r c = cc at *
        go_wp2_with fail
        go_ret
        exact ⟨ret_int HN.out.symm, HB1.out⟩
    · have hkn : k = n := by omega
      have hnl : ¬ ((k : Int) < (n : Int)) := by omega
      have HE : Hid (hiF R n = 0) := by rw [← hkn]; exact HZ
      go_wp2_with fail
      go_ret
      exact ⟨ret_int HE.out.symm, HB.out⟩
theorem hsC_many {R : Nat → Hp} {n : Nat} (h : 400 < n) : hsC R n = 2 := by simp [hsC, h]
theorem hsC_few {R : Nat → Hp} {n : Nat} (h : n ≤ 400) : hsC R n = hiF R n := by simp only [hsC]; rw [if_neg (by omega)]
theorem implHf_any (n : Nat) (R : Nat → Hp) (a : Option Addr) (cap : Nat) (w : World) (hn : n ≤ 1048576) (hw : HpW n R) (h : HopsAt w a n R) :
    Calls Tryd.prog 13 #[.slice a n cap] w fun e w' => e = .returned (.int .i64 (hsC R n)) ∧ Below w.heap.size w w' := by
  by_cases hs : n ≤ 400
  · rw [hsC_few hs]
    rcases h with rfl | ⟨b, off, rfl, hbl, hc⟩
    · have hmm := @run_makeMap Tryd.prog
      go_enter Tryd.func13, Tryd.ntmps13
      go_wp2_with fail
      go_loopw [5, 6, 13] (fun _ _ i wr => i = .int .i64 0 ∧ Below w.heap.size w wr) (fun _ _ _ _ => 0)
      case atStart => exact ⟨rfl, below_new _ _⟩
      case round =>
        obtain ⟨rfl, hB⟩ := hrel
        go_wp2_with fail
        go_ret
        exact ⟨rfl, hB⟩
    · exact implHf_some n R b off cap w hs hw hbl hc
  · have HE : Hid (hsC R n = 2) := hsC_many (by omega)
    have hle : ((400 : Int) < (n : Int)) := by omega
    go_enter Tryd.func13, Tryd.ntmps13
    go_wp2_with fail
    go_ret
    exact ⟨ret_int HE.out.symm, Below.refl _ _⟩
/-! ### the model -/
theorem l10State_q (n : Nat) (R : Nat → Hp) (a : Option Addr) (cap : Nat) (t : Int) (w : World) (hn : n ≤ 1048576) (h : HopsAt w a n R) :
    Calls Tryd.prog 18 #[.slice a n cap, .int .i64 t] w fun e w' => e = .returned (.int .i64 (stK R n t)) ∧ ∃ m, w' = w.drewN m := by
  refine (l10State_any n R a cap t w hn h).mono ?_
  rintro e w' ⟨rfl, rfl⟩
  exact ⟨rfl, 0, rfl⟩
/-- What the model asks of a hop, by six tests. -/
theorem hpF_by {R : Nat → Hp} {k : Nat} (h : hiF R k = 0) (s : Int) (hs : s = stK R k (R k).t) (x0 x1 x2 x3 x4 x5 x6 x7 x8 x9 : Bool)
    (e0 : inB (R k).k 1 5 = x0) (e1 : inB (R k).t 2 999 = x1) (e2 : inB (R k).y 0 31 = x2) (e3 : inB (R k).o 0 999 = x3)
    (e4 : ((R k).k != 2) = x4) (e5 : ((R k).o != 0) = x5) (e6 : ((R k).k != 3) = x6) (e7 : ((R k).y != 0) = x7) (e8 : ((R k).k == 1) = x8) (e9 : (if x8 then (s != 0) else (s != 1)) = x9) :
    hpF (R k) (lastK R k (R k).t) = if !x0 || !x1 || !x2 || !x3 then 3 else if x4 && x5 || x4 && x6 && x7 then 1 else if x9 then 10 else 0 := by
  have hm := may_st h (R k).k (R k).t
  rw [← hs] at hm
  generalize lastK R k (R k).t = l at *
  generalize R k = r at *
  have f1 : hpIn r = (x0 && x1 && x2 && x3) := by rw [hpIn, e0, e1, e2, e3]
  have f2 : hpFm r = !(x4 && x5 || x4 && x6 && x7) := by
    subst e4 e5 e6 e7
    simp only [hpFm]
    by_cases a1 : r.k = 2
    · simp [a1]
    · by_cases a2 : r.k = 3
      · simp [a2]; cases hq : (r.o == 0) <;> simp_all
      · simp [a1, a2]; cases hq : (r.o == 0) <;> cases hp : (r.y == 0) <;> simp_all
  have f3 : mayF r.k l = !x9 := by
    subst e9 e8
    by_cases a1 : r.k = 1
    · simp [a1] at hm ⊢
      cases hq : mayF 1 l
      · rw [a1] at *; simp_all
      · rw [a1] at *; simp_all
    · simp [a1] at hm ⊢
      cases hq : mayF r.k l <;> simp_all
  unfold hpF
  rw [f1, f2, f3]
  cases x0 <;> cases x1 <;> cases x2 <;> cases x3 <;> simp <;> cases x4 <;> cases x5 <;> cases x6 <;> cases x7 <;> simp
end Go.Proofs.YtdgginfagbmooaaDoor
