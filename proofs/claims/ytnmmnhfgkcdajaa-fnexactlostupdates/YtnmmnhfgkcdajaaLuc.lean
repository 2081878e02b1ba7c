/- LostUpdates: the model's side. -/
import Derived.Test.YtnmmnhfgkcdajaaLub
namespace Go.Proofs.Ytnmmnhfgkcdajaa
open Go.RowKit Go.Deep
set_option linter.unusedVariables false
set_option maxRecDepth 20000

/-- Where the model stands: its answer lies in the box B, its list in blocks behind it. -/
structure SL (w : World) (B : Nat) (wr : World) (zs : List Int) (oa : Option Addr) (oc : Nat) : Prop where
  bel : Below w.heap.size w wr
  lt : w.heap.size < B
  lt2 : B < wr.heap.size
  res : Box2 wr w.heap.size (.int .i64 0) (.slice none 0 0) ∧ ∀ i, wr.frozen? ⟨w.heap.size, i, none⟩ = false
  box : Box2 wr B (.int .i64 0) (.slice oa zs.length oc) ∧ ∀ i, wr.frozen? ⟨B, i, none⟩ = false
  own : wr.ownsRow (B + 1) 2 1 (.slice oa zs.length oc) zs.length (il zs)
theorem SL.below {w wr w' : World} {B : Nat} {zs : List Int} {oa : Option Addr} {oc : Nat} (h : SL w B wr zs oa oc) (hb : Below wr.heap.size wr w') : SL w B w' zs oa oc := by
  have h1 := h.lt
  have h2 := h.lt2
  exact ⟨below_then h.bel hb, h1, Nat.lt_of_lt_of_le h2 hb.size, ⟨h.res.1.below hb, fun i => ((bcell hb).2 _ _ (by omega)).trans (h.res.2 i)⟩, ⟨h.box.1.below hb, fun i => ((bcell hb).2 _ _ h2).trans (h.box.2 i)⟩, own_belowI h.own hb⟩
theorem own_set {w : World} {base n s B o : Nat} {e : TypeId} {v u : Value} {xs : List Value} (h : w.ownsRow base e s v n xs) (hB : B < base) : (w.setCell ⟨B, o, none⟩ u).ownsRow base e s v n xs := by
  have hw : Writes B (B + 1) w (w.setCell ⟨B, o, none⟩ u) := (Writes.refl _ _ _).setCell (p := ⟨B, o, none⟩) (Nat.le_refl _) (Nat.lt_succ_self _) _
  exact ownI_keep h fun q hq => hw.block q (ownI_lt h q hq).2 (.inr (by have := (ownI_lt h q hq).1; omega))
theorem SL.store {w wr : World} {B : Nat} {zs us : List Int} {oa ua : Option Addr} {oc uc : Nat} (h : SL w B wr zs oa oc) (ho : wr.ownsRow (B + 1) 2 1 (.slice ua us.length uc) us.length (il us)) : SL w B (wr.setCell ⟨B, 1, none⟩ (.slice ua us.length uc)) us ua uc := by
  have h1 := h.lt
  have h2 := h.lt2
  have hw : Writes B (B + 1) wr (wr.setCell ⟨B, 1, none⟩ (.slice ua us.length uc)) := (Writes.refl _ _ _).setCell (p := ⟨B, 1, none⟩) (Nat.le_refl _) (Nat.lt_succ_self _) _
  refine ⟨Writes.below h.bel hw (by omega), h1, by simpa [World.setCell] using h2, ⟨?_, ?_⟩, ⟨⟨?_, ?_⟩, ?_⟩, own_set ho (by omega)⟩
  · have hq := hw.block w.heap.size (by omega) (.inl (by omega))
    exact ⟨(World.cell?_of_block (w := wr) (a := ⟨w.heap.size, 0, none⟩) hq).trans h.res.1.1, (World.cell?_of_block (w := wr) (a := ⟨w.heap.size, 1, none⟩) hq).trans h.res.1.2⟩
  · intro i
    have := h.res.2 i
    simpa [go_sem] using this
  · have := h.box.1.1
    simp [go_sem, this]
  · have := h.box.1.2
    simp [go_sem, this]
  · intro i
    have := h.box.2 i
    simpa [go_sem] using this
/-- The list while key y is gone through. -/
def curL (R : Nat → Hp) (n y : Nat) (b : Bool) : List Int := if b = true then luL R n y ++ [(y : Int)] else luL R n y
theorem curL_len (R : Nat → Hp) (n y : Nat) (b : Bool) : (curL R n y b).length ≤ y + 1 := by
  have := luL_len R n y
  unfold curL; split
  · simp; omega
  · omega
theorem curL_ri (R : Nat → Hp) (n y : Nat) (b : Bool) : ri (curL R n y b) (y : Int) = curL R n y true := by
  have h := luL_lt R n y
  cases b
  · simp only [curL]; exact ri_last _ _ h
  · simp only [curL]; exact ri_again _ _ h
theorem curL_end (R : Nat → Hp) (n y : Nat) : curL R n y (soB R n (wrK R n y)) = luL R n (y + 1) := rfl
set_option maxHeartbeats 8000000 in
theorem specLu_any (n : Nat) (R : Nat → Hp) (a : Option Addr) (w : World) (hn : n ≤ 1048576) (h : HopsAt w a n R) :
    Calls Try.prog 19 #[.slice a n n] w (IRes (hsC R n) (luL R n 32) w) := by
  have HX : Hid (HopsAt w a n R) := h
  clear h
  go_enter Try.func19, Try.ntmps19
  go_wp2_with fail
  refine (specHf_any n R a _ hn (HX.out.below (below_new _ _))).mono ?_
  rintro e w1 ⟨rfl, hb1⟩
  have B2 := (Box2.new w (.int .i64 0) (.slice none 0 0) 26).below hb1
  have rf : ∀ i, w1.frozen? ⟨w.heap.size, i, none⟩ = false := fun i => ((bcell hb1).2 _ _ (by simp)).trans (by simp [go_sem])
  have HBW : Hid (Below w.heap.size w w1) := below_then (below_new _ _) hb1
  have hs1 : w.heap.size + 1 ≤ w1.heap.size := by have := hb1.size; rw [World.size_alloc] at this; exact this
  clear hb1
  by_cases hc : hsC R n = 0
  case neg =>
    obtain ⟨r0, r1⟩ := B2
    have hc2 : (hsC R n != 0) = true := by simp [hc]
    have HF : Hid (∀ w7, Below w.heap.size w w7 → IRes (hsC R n) (luL R n 32) w (.returned (.agg #[.int .i64 (hsC R n), .slice none 0 0])) w7) := fun w7 hb => ires_bad hb hc
    clear hc
    generalize hsC R n = uu at *
    go_wp2_with fail
    refine bodyPost_ret (v := .agg #[.int .i64 uu, .slice none 0 0]) (by simp [results, Try.results19, go_sem, *]) rfl ?_
    refine HF.out _ ?_
    repeat (first | with_reducible exact HBW.out | with_reducible refine Below.setCell ?_ (by first | omega | (simp <;> omega)) _)
  have hn4 := hs_few hc
  have HC0 : Hid (hsC R n = 0) := hc
  rw [hc]
  clear hc
  have HS0 : Hid (SL w w1.heap.size (w1.alloc (.cells #[.int .i64 0, .slice none 0 0] 26)) (luL R n 0) none 0) := by
    refine ⟨below_then HBW.out (below_new _ _), by omega, by simp, ⟨B2.below (below_new _ _), fun i => ((bcell (below_new _ _)).2 _ _ (by omega)).trans (rf i)⟩, ⟨Box2.new _ _ _ _, fun i => by simp [go_sem]⟩, World.ownsRow_nil _ _ _ _⟩
  obtain ⟨r0, r1⟩ := B2
  go_wp2_with fail
  clear r0 r1 rf HBW
  have HWR : Hid (∀ (y : Nat) wv, HopsAt wv a n R → Calls Try.prog 30 #[.slice a n n, .int .i64 (y : Int)] wv (LRes (wrK R n y) wv)) := fun y wv h => l10Writers_any n R a n y wv hn4 h
  have HOV : Hid (∀ x y wv, HopsAt wv a n R → Calls Try.prog 39 #[.slice a n n, .int .i64 x, .int .i64 y] wv fun e w' => e = .returned (.bool (ovI R n x y)) ∧ w' = wv) := fun x y wv h => l10Overlap_any n R a n x y wv hn h
  generalize w1.heap.size = B at *
  go_loopw [5, 6, 7, 8] (fun i _ _ _ wr => ∃ (y : Nat) (oa : Option Addr) (oc : Nat), y ≤ 32 ∧ i = .int .i64 y ∧ Hid (SL w B wr (luL R n y) oa oc)) (fun i _ _ _ _ => 32 - (intOf i).toNat)
  case atStart => exact ⟨0, none, 0, Nat.zero_le _, rfl, HS0⟩
  case round =>
    clear HS0
    obtain ⟨y, oa, oc, hy, rfl, HS⟩ := hrel
    by_cases hlt : y < 32
    · have hlt' : (y : Int) ≤ 31 := by omega
      go_wp2_with fail
      refine (HWR.out y _ (HX.out.below HS.out.bel)).mono ?_
      rintro e w3 ⟨u, rfl, hb3, ho3⟩
      obtain ⟨ua, uc, rfl⟩ := row1_slice ho3
      have HS3 : Hid (SL w B w3 (curL R n y (soO R n (wrK R n y) 0)) oa oc) := HS.out.below hb3
      have HO3 : Hid (w3.ownsRow (B + 1) 2 1 (.slice ua (wrK R n y).length uc) (wrK R n y).length (il (wrK R n y))) := own_down ho3 HS.out.lt2
      have HWL : Hid ((wrK R n y).length ≤ 400) := wrK_len hn4
      have HEND : Hid (curL R n y (soO R n (wrK R n y) (wrK R n y).length) = luL R n (y + 1)) := rfl
      clear hb3 ho3 HS
      generalize wrK R n y = ws at *
      go_wp2_with fail
      go_loopw [7, 8] (fun i _ wr => ∃ (k : Nat) (oa : Option Addr) (oc : Nat), k ≤ ws.length ∧ i = .int .i64 k ∧ Hid (SL w B wr (curL R n y (soO R n ws k)) oa oc) ∧ Hid (wr.ownsRow (B + 1) 2 1 (.slice ua ws.length uc) ws.length (il ws))) (fun i _ _ => ws.length - (intOf i).toNat)
      case atStart => exact ⟨0, oa, oc, Nat.zero_le _, rfl, HS3, HO3⟩
      case round =>
        clear HS3 HO3
        obtain ⟨k, oa, oc, hk, rfl, HS, HO⟩ := hrel
        by_cases hlt2 : k < ws.length
        · have hlt2' : (k : Int) < (ws.length : Int) := by omega
          have hk4 : k ≤ 400 := by have := HWL.out; omega
          have hk0 : (0 : Int) ≤ (k : Int) := by omega
          have HS0 : Hid (SL w B wr (curL R n y (soO R n ws k || soI R n ws k 0)) oa oc) := by show SL _ _ _ _ _ _; have := HS.out; simpa [soI, anyB] using this
          clear HS
          go_wp2_with fail
          go_loopw [8] (fun i wr => ∃ (j : Nat) (oa : Option Addr) (oc : Nat), j ≤ k ∧ i = .int .i64 j ∧ Hid (SL w B wr (curL R n y (soO R n ws k || soI R n ws k j)) oa oc) ∧ Hid (wr.ownsRow (B + 1) 2 1 (.slice ua ws.length uc) ws.length (il ws))) (fun i _ => k - (intOf i).toNat)
          case atStart => exact ⟨0, oa, oc, Nat.zero_le _, rfl, HS0, HO⟩
          case round =>
            clear HS0 HO
            obtain ⟨j, oa, oc, hj, rfl, HS, HO⟩ := hrel
            by_cases hlt3 : j < k
            · have hlt3' : (j : Int) < (k : Int) := by omega
              have hj0 : (0 : Int) ≤ (j : Int) := by omega
              have hjw' : (j : Int) < (ws.length : Int) := by omega
              obtain ⟨ua', uc', hue, hoi⟩ := ownI_of_row HO.out
              obtain ⟨rfl, rfl⟩ : ua' = ua ∧ uc' = uc := by injection hue with e1 e2 e3; exact ⟨e1.symm, e3.symm⟩
              rcases hoi.at with h | ⟨lb, lo, rfl, hlb, hlx⟩
              · omega
              have lx := hlx k hlt2
              have lx2 := hlx j (by omega)
              clear hlx hoi hue
              have HYS : Hid (ovI R n (zI ws k) (zI ws j) = true → (soO R n ws k || soI R n ws k (j + 1)) = true) := fun e => by show _ = true; simp [soI, anyB, e]
              have HNO : Hid (ovI R n (zI ws k) (zI ws j) = false → (soO R n ws k || soI R n ws k (j + 1)) = (soO R n ws k || soI R n ws k j)) := fun e => by show _ = _; simp [soI, anyB, e]
              have HHX : Hid (HopsAt wr a n R) := HX.out.below HS.out.bel
              generalize zI ws k = zk at *
              generalize zI ws j = zj at *
              obtain h1 | h1 := boolor (ovI R n zk zj)
              · have HT := HYS.out h1
                have hs2 := HS.out.lt2
                go_wp2_with fail
                go_quiet (first | (go_at_call 39; exact Calls.quiet_of_same (HOV.out zk zj _ (HHX.out.below (below_drewN (Below.refl _ _) _)))))
                have HSq : Hid (SL w B (wr.drewN nq) (curL R n y (soO R n ws k || soI R n ws k j)) oa oc) := HS.out.below (below_drewN (Below.refl _ _) _)
                have HOq : Hid ((wr.drewN nq).ownsRow (B + 1) 2 1 (.slice (some ⟨lb, lo, none⟩) ws.length uc') ws.length (il ws)) := own_belowI HO.out (below_drewN (Below.refl _ _) _)
                clear HS HO lx lx2 HHX HYS HNO hlb
                generalize wr.drewN nq = wq at *
                rw [h1]
                have HQL : Hid ((curL R n y (soO R n ws k || soI R n ws k j)).length ≤ 90000) := Nat.le_trans (curL_len R n y _) (by omega)
                have HRI : Hid (ri (curL R n y (soO R n ws k || soI R n ws k j)) (y : Int) = curL R n y true) := curL_ri R n y _
                have HT2 : Hid (curL R n y true = curL R n y (soO R n ws k || soI R n ws k (j + 1))) := by show _ = _; rw [HT]
                clear HT
                generalize curL R n y (soO R n ws k || soI R n ws k j) = cl at *
                generalize curL R n y true = ct at *
                obtain ⟨⟨b0, b1⟩, bf⟩ := HSq.out.box
                go_wp2_with fail
                refine (l1Rise_own cl (y : Int) _ (B + 1) wq HSq.out.lt2 HQL.out HSq.out.own).mono ?_
                rintro e w5 ⟨u, rfl, hb5, ho5⟩
                rw [HRI.out] at ho5
                obtain ⟨va, vc, rfl⟩ := row1_slice ho5
                have HS5 := HSq.out.below hb5
                have HO5 := own_belowI HOq.out hb5
                have HS6 : Hid (SL w B (w5.setCell ⟨B, 1, none⟩ (.slice va ct.length vc)) (curL R n y (soO R n ws k || soI R n ws k (j + 1))) va vc) := by show SL _ _ _ _ _ _; rw [← HT2.out]; exact HS5.store ho5
                have HO6 : Hid ((w5.setCell ⟨B, 1, none⟩ (.slice va ct.length vc)).ownsRow (B + 1) 2 1 (.slice (some ⟨lb, lo, none⟩) ws.length uc') ws.length (il ws)) := own_set HO5 (Nat.lt_succ_self _)
                replace b0 := cell_below b0 hb5
                replace b1 := cell_below b1 hb5
                replace bf := HS5.box.2
                clear HS5 HO5 hb5 ho5 HSq HOq HRI HT2
                generalize ct.length = ctl at *
                go_wp2_with fail
                go_roundw
                case rel => exact ⟨j + 1, va, vc, hlt3, by go_num, HS6, HO6⟩
                case measure => simp [intOf]; omega
              · have HE := HNO.out h1
                go_wp2_with fail
                go_quiet (first | (go_at_call 39; exact Calls.quiet_of_same (HOV.out zk zj _ (HHX.out.below (below_drewN (Below.refl _ _) _)))))
                have HSq : Hid (SL w B (wr.drewN nq) (curL R n y (soO R n ws k || soI R n ws k (j + 1))) oa oc) := by show SL _ _ _ _ _ _; rw [HE]; exact HS.out.below (below_drewN (Below.refl _ _) _)
                have HOq : Hid ((wr.drewN nq).ownsRow (B + 1) 2 1 (.slice (some ⟨lb, lo, none⟩) ws.length uc') ws.length (il ws)) := own_belowI HO.out (below_drewN (Below.refl _ _) _)
                clear HS HO lx lx2 HHX HYS HNO hlb HE
                generalize wr.drewN nq = wq at *
                rw [h1]
                go_wp2_with fail
                go_roundw
                case rel => exact ⟨j + 1, oa, oc, hlt3, by go_num, HSq, HOq⟩
                case measure => simp [intOf]; omega
            · have hjk : j = k := by omega
              have hnl : ¬ ((j : Int) < (k : Int)) := by omega
              have HS2 : Hid (SL w B wr (curL R n y (soO R n ws (k + 1))) oa oc) := by have h := HS.out; rw [hjk] at h; exact h
              clear HS hjk
              go_wp2_with fail
              go_roundw
              case rel => exact ⟨k + 1, oa, oc, hlt2, by go_num, HS2, HO⟩
              case measure => simp [intOf]; omega
        · have hjk : k = ws.length := by omega
          have hnl : ¬ ((k : Int) < (ws.length : Int)) := by omega
          have HS2 : Hid (SL w B wr (luL R n (y + 1)) oa oc) := by have h := HS.out; rw [hjk, HEND.out] at h; exact h
          clear HS hjk HO HEND
          go_wp2_with fail
          go_roundw
          case rel => exact ⟨y + 1, oa, oc, hlt, by go_num, HS2⟩
          case measure => simp [intOf]; omega
    · have hy2 : y = 32 := by omega
      have hnl : ¬ ((y : Int) ≤ 31) := by omega
      have HF : Hid (∀ w7, Writes w.heap.size (w.heap.size + 1) wr w7 → w7.heap.size = wr.heap.size → IRes (hsC R n) (luL R n 32) w (.returned (.agg #[.int .i64 0, .slice oa (luL R n y).length oc])) w7) := fun w7 hw hs7 => by
        have hO := HS.out.own
        have hl := HS.out.lt
        rw [hy2] at hO ⊢
        exact ires_ok HC0.out HS.out.bel (Nat.le_refl _) (Nat.le_succ _) (by omega) hO hw hs7
      obtain ⟨⟨r0, r1⟩, rf⟩ := HS.out.res
      obtain ⟨⟨b0, b1⟩, bf⟩ := HS.out.box
      clear HS hy2
      generalize (luL R n y).length = len at *
      go_wp2_with fail
      refine bodyPost_ret (v := .agg #[.int .i64 0, .slice oa len oc]) (by simp [results, Try.results19, go_sem, *]) rfl ?_
      refine HF.out _ ?_ ?_
      · repeat (first | with_reducible exact Writes.refl _ _ _ | with_reducible refine Writes.setCell ?_ (by first | omega | (simp <;> omega)) (by first | omega | (simp <;> omega)) _)
      · simp [World.setCell]
end Go.Proofs.Ytnmmnhfgkcdajaa
