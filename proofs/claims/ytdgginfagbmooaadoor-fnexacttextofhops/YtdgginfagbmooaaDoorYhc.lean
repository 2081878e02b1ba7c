/- The program's TextOfHops. -/
import Derived.Test.YtdgginfagbmooaaDoorYhb
import Derived.Test.YtdgginfagbmooaaDoorHfb
namespace Go.Proofs.YtdgginfagbmooaaDoor
open Go.RowKit Go.Deep
set_option linter.unusedVariables false
set_option maxRecDepth 20000

def ttext (R : Nat → Hp) (n : Nat) : ByteArray := if hsC R n = 0 then HTx R n else ByteArray.empty
theorem tt_ok {R : Nat → Hp} {n : Nat} (h : hsC R n = 0) : n ≤ 400 ∧ ttext R n = HTx R n ∧ (∀ i, i < n → hpIn (R i) = true) := by
  have h4 : n ≤ 400 := by
    by_cases e : n ≤ 400
    · exact e
    · rw [hsC_many (by omega)] at h; exact absurd h (by decide)
  exact ⟨h4, by simp only [ttext, h, if_true], fun i hi => hiF_good (by rw [← hsC_few h4]; exact h) i hi⟩
theorem tt_no {R : Nat → Hp} {n : Nat} (h : hsC R n ≠ 0) : ttext R n = ByteArray.empty := by simp only [ttext, h, if_false]
def TRes (w : World) (R : Nat → Hp) (n : Nat) (e : Ending) (w' : World) : Prop := e = .returned (.agg #[.int .i64 (hsC R n), .string (ttext R n)]) ∧ Below w.heap.size w w'
set_option maxHeartbeats 2000000 in
theorem implTx_any (n : Nat) (R : Nat → Hp) (a : Option Addr) (w : World) (hn : n ≤ 1048576) (hw : HpW n R) (h : HopsAt w a n R) (hP : PowAt w) : Calls Tryd.prog 7 #[.slice a n n] w (TRes w R n) := by
  have HP : Hid (PowAt w) := hP
  have HH : Hid (HopsAt w a n R) := h
  clear h hP
  go_enter Tryd.func7, Tryd.ntmps7
  go_wp2_with fail
  have X0 := Box2.new w (.int .i64 0) (.string ⟨#[]⟩) 25
  have F0 : ∀ i, (w.alloc (.cells #[.int .i64 0, .string ⟨#[]⟩] 25)).frozen? ⟨w.heap.size, i, none⟩ = false := fun i => by simp [go_sem]
  have HB0 : Hid (Below w.heap.size w (w.alloc (.cells #[.int .i64 0, .string ⟨#[]⟩] 25))) := below_new _ _
  generalize (w.alloc (.cells #[.int .i64 0, .string ⟨#[]⟩] 25)) = w0 at *
  refine (implHf_any n R a n w0 hn hw (HH.out.below HB0.out)).mono ?_
  rintro e w1 ⟨rfl, hb1⟩
  have HB1 : Hid (Below w.heap.size w w1) := HB0.out.trans (hb1.mono HB0.out.size)
  have hl0 : w.heap.size < w0.heap.size := X0.lt
  replace X0 := X0.below hb1
  have F1 : ∀ i, w1.frozen? ⟨w.heap.size, i, none⟩ = false := fun i => ((bcell hb1).2 _ _ hl0).trans (F0 i)
  clear hb1 F0 hl0
  by_cases hc : hsC R n = 0
  · obtain ⟨h400, htt, hgood⟩ := tt_ok hc
    have HG : Hid (∀ i, i < n → hpIn (R i) = true) := hgood
    have HE : Hid (hsC R n = 0 ∧ ttext R n = HTx R n) := ⟨hc, htt⟩
    rw [hc]
    clear hc htt hgood
    have HX : Hid (Box2 w1 w.heap.size (.int .i64 0) (.string ⟨#[]⟩) ∧ ∀ i, w1.frozen? ⟨w.heap.size, i, none⟩ = false) := ⟨X0, F1⟩
    clear X0 F1
    go_wp2_with fail
    go_loopw [4, 6, 15] (fun v _ i wr => ∃ q : Nat, q ≤ n ∧ i = .int .i64 q ∧ Hid (Below w.heap.size w wr) ∧ Hid (Box2 wr w.heap.size (.int .i64 0) (.string ⟨#[]⟩) ∧ ∀ i, wr.frozen? ⟨w.heap.size, i, none⟩ = false) ∧ v = .string (HTx R q)) (fun _ _ i _ => n - (intOf i).toNat)
    case atStart => exact ⟨0, Nat.zero_le _, rfl, HB1, HX, rfl⟩
    case round =>
      clear HB1 HX
      obtain ⟨q, hq, rfl, HB, HX, rfl⟩ := hrel
      by_cases hlt : q < n
      · have hlt' : (q : Int) < (n : Int) := by omega
        have hq0 : (0 : Int) ≤ (q : Int) := by omega
        rcases HH.out with h | ⟨b, off, rfl, hbl, hcc⟩
        · omega
        have hch := hcc q hlt
        have hin := HG.out q hlt
        have hts := HTx_size HG.out q hq
        have hhs := ht_size hin
        have HNX : Hid (HTx R (q + 1) = HTx R q ++ ht (R q)) := rfl
        have hadd : ∀ u : World, (Op.stringOp .add (HTx R q) (ht (R q))).run Tryd.prog u = .ok (.string (HTx R q ++ ht (R q))) u := fun u => run_string_add_sum u _ _ (by omega)
        obtain ⟨k, t, y, o, hr, hk1, hk5, ht9, hy9, ho9⟩ := hop_nat hin
        obtain ⟨p, rfl⟩ : ∃ p, k = p + 1 := ⟨k - 1, by omega⟩
        have hkk : ((p + 1 : Nat) : Int) = (p : Int) + 1 := by omega
        rw [hkk] at hr
        rw [hr] at hch hadd HNX
        obtain ⟨c0, c1, c2, c3⟩ := hch
        replace c0 := cell_below c0 HB.out
        replace c1 := cell_below c1 HB.out
        replace c2 := cell_below c2 HB.out
        replace c3 := cell_below c3 HB.out
        simp only at c0 c1 c2 c3
        clear hcc hr hin hhs
        generalize HTx R q = T at *
        go_wp2_with fail
        refine (hopLine_any p t y o _ (by omega) ht9 hy9 ho9 (HP.out.below (HB.out.alloc HB.out.size _))).mono ?_
        rintro e w2 ⟨rfl, hb2⟩
        have HB2 : Hid (Below w.heap.size w w2) := (HB.out.alloc HB.out.size _).trans (hb2.mono (by have := HB.out.size; simp; omega))
        have HX2 : Hid (Box2 w2 w.heap.size (.int .i64 0) (.string ⟨#[]⟩) ∧ ∀ i, w2.frozen? ⟨w.heap.size, i, none⟩ = false) := by
          have hl := HX.out.1.lt
          refine ⟨(HX.out.1.alloc _).below hb2, fun i => ?_⟩
          rw [(bcell hb2).2 _ _ (by simp; omega), (bcell (below_new wr _)).2 _ _ hl]
          exact HX.out.2 i
        clear hb2 c0 c1 c2 c3
        go_wp2_with fail
        go_roundw
        case rel => exact ⟨q + 1, hlt, by go_num, HB2, HX2, by rw [HNX.out]⟩
        case measure => simp [intOf]; omega
      · have hqn : q = n := by omega
        subst hqn
        obtain ⟨⟨z0, z1⟩, zf⟩ := HX.out
        go_wp2_with fail
        refine bodyPost_ret (v := .agg #[.int .i64 0, .string (HTx R q)]) (by simp [results, Tryd.results7, go_sem, z0, z1]) rfl ?_
        refine ⟨by rw [HE.out.1, HE.out.2], ?_⟩
        repeat (first | with_reducible exact HB.out | with_reducible refine Below.setCell ?_ (by first | omega | (simp <;> omega)) _)
  · have htt := tt_no hc
    have HE : Hid (ttext R n = ByteArray.empty) := htt
    obtain ⟨z0, z1⟩ := X0
    have hcb : (hsC R n != 0) = true := by simp [hc]
    clear hc htt
    generalize hce : hsC R n = c at *
    have HCE : Hid (hsC R n = c) := hce
    clear hce
    go_wp2_with fail
    refine bodyPost_ret (v := .agg #[.int .i64 c, .string ⟨#[]⟩]) (by simp [results, Tryd.results7, go_sem, z0, z1]) rfl ?_
    refine ⟨by rw [HE.out, HCE.out]; rfl, ?_⟩
    repeat (first | with_reducible exact HB1.out | with_reducible refine Below.setCell ?_ (by first | omega | (simp <;> omega)) _)
end Go.Proofs.YtdgginfagbmooaaDoor
