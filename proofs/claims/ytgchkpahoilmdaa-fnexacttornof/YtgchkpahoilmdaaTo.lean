/- Both TornOfs. -/
import Derived.Test.YtgchkpahoilmdaaRt
import Derived.Test.YtgchkpahoilmdaaIr
namespace Go.Proofs.Ytgchkpahoilmdaa
open Go.RowKit Go.Deep
set_option linter.unusedVariables false
set_option maxRecDepth 20000

/-- Of the first k pages the places of those that cannot be read. -/
def tor (D : Dk) : Nat → List Int
  | 0 => []
  | k + 1 => if rsC (stl D idF D.m k) k = 0 then tor D k else tor D k ++ [(k : Int)]
theorem tor_len (D : Dk) : ∀ k, (tor D k).length ≤ k
  | 0 => Nat.le_refl _
  | k + 1 => by have := tor_len D k; unfold tor; split <;> simp <;> omega
theorem tor_no {D : Dk} {k : Nat} (h : rsC (stl D idF D.m k) k = 0) : tor D (k + 1) = tor D k := by rw [tor, if_pos h]
theorem tor_yes {D : Dk} {k : Nat} (h : ¬ rsC (stl D idF D.m k) k = 0) : tor D (k + 1) = tor D k ++ [(k : Int)] := by rw [tor, if_neg h]
/-- Where a loop over pages stands: the list of numbers in v. -/
structure Tt (base : Nat) (w wr : World) (v : Value) (zs : List Int) : Prop where
  below : Below w.heap.size w wr
  hsz : base ≤ wr.heap.size
  own : wr.ownsRow base 2 1 v zs.length (il zs)
theorem Tt.mono {base : Nat} {w wr wq : World} {v : Value} {zs : List Int} (h : Tt base w wr v zs) (hb : Below wr.heap.size wr wq) : Tt base w wq v zs :=
  ⟨below_then h.below hb, Nat.le_trans h.hsz hb.size, h.own.kept (row := none) ⟨hb.os, hb.tape, hb.output, hb.size, fun q hq _ => hb.block q hq⟩ (by cases hv : v.ownBlock <;> simp)⟩
theorem Tt.step {base : Nat} {w wr w1 : World} {v v' : Value} {zs : List Int} {x : Int} {o : Obj} (h : Tt base w wr v zs) (hb : w.heap.size ≤ base) (ho : w1.ownsRow base 2 1 v' (zs.length + 1) (il zs ++ [.int .i64 x])) (hg : (wr.alloc o).grownBy w1 v.ownBlock) : Tt base w w1 v' (zs ++ [x]) := by
  have hsz := h.hsz
  have hs1 := hg.size
  rw [World.size_alloc] at hs1
  refine ⟨(h.below.alloc h.below.size _).grown hg (by rw [World.size_alloc]; omega) (fun q hq => by have := (h.own.lt q hq).1; omega), by omega, ?_⟩
  rw [List.length_append, il_app]
  exact ho
theorem slice_of_ints {w : World} {base n : Nat} {v : Value} {xs : List Value} (h : w.ownsRow base 2 1 v n xs) : ∃ a cap, v = .slice a n cap := by
  rcases h.2 with ⟨rfl, h0⟩ | ⟨g, cap, cur, rfl, _⟩
  · exact ⟨none, 0, by rw [h0]⟩
  · exact ⟨_, cap, rfl⟩
theorem PRes.code {c idn lsn : Int} {n : Nat} {K V : Nat → Int} {w w' : World} {e : Ending} (h : PRes c idn lsn n K V w e w') : ∃ I L v, e = .returned (.agg #[.int .i64 c, .int .i64 I, .int .i64 L, v]) ∧ Below w.heap.size w w' := by
  obtain ⟨a, cap, I, L, N, rfl, -, hb, -⟩ := h.open
  exact ⟨I, L, _, rfl, hb⟩
theorem field_code (c I L : Int) (v : Value) (w : World) : (Instr.field 27 (.agg #[.int .i64 c, .int .i64 I, .int .i64 L, v]) 0).run Try.prog w = .ok (.int .i64 c) w := by kernel_rfl
theorem toB {w1 w2 : World} (hb : Below w1.drew.heap.size w1.drew w2) : Below w1.heap.size w1 w2 := ((Below.refl _ _).drew).trans hb
theorem toB2 {w1 w2 : World} {x y : Value} {t : TypeId} (hb : Below (w1.alloc (.cells #[x, y] t)).drew.heap.size (w1.alloc (.cells #[x, y] t)).drew w2) :
    Below w1.heap.size w1 w2 ∧ w1.heap.size < w2.heap.size ∧ w2.cell? ⟨w1.heap.size, 0, none⟩ = some x ∧ w2.cell? ⟨w1.heap.size, 1, none⟩ = some y ∧ ∀ i, w2.frozen? ⟨w1.heap.size, i, none⟩ = false := by
  have h1 := toB hb
  have hs : w1.heap.size < w2.heap.size := by have := h1.size; rw [World.size_alloc] at this; omega
  exact ⟨below_then (below_new _ _) h1, hs, cell_below (w := w1.alloc (.cells #[x, y] t)) (by simp) h1, cell_below (w := w1.alloc (.cells #[x, y] t)) (by simp) h1, fun i => (h1.frozen (p := ⟨w1.heap.size, i, none⟩) (by show w1.heap.size < _; rw [World.size_alloc]; omega)).trans (by simp)⟩
theorem toB3 {w1 w2 : World} {x y : Value} {t : TypeId} (hb : Below (w1.alloc (.cells #[x, y] t)).heap.size (w1.alloc (.cells #[x, y] t)) w2) :
    w2.cell? ⟨w1.heap.size, 0, none⟩ = some x ∧ w2.cell? ⟨w1.heap.size, 1, none⟩ = some y ∧ ∀ i, w2.frozen? ⟨w1.heap.size, i, none⟩ = false :=
  ⟨cell_below (w := w1.alloc (.cells #[x, y] t)) (by simp) hb, cell_below (w := w1.alloc (.cells #[x, y] t)) (by simp) hb, fun i => (hb.frozen (p := ⟨w1.heap.size, i, none⟩) (by show w1.heap.size < _; rw [World.size_alloc]; omega)).trans (by simp)⟩
theorem frozen_below {w2 w3 : World} {B : Nat} {x : Value} (h : w2.cell? ⟨B, 0, none⟩ = some x) (hf : ∀ i, w2.frozen? ⟨B, i, none⟩ = false) (hb : Below w2.heap.size w2 w3) : ∀ i, w3.frozen? ⟨B, i, none⟩ = false := fun i => (hb.frozen (p := ⟨B, i, none⟩) (by have := Go.block_lt_of_cell h; exact this)).trans (hf i)
/-- What the region that settles leaves. -/
def ToM (w1 : World) (n : Nat) (Z : Nat → Nat → Int) (s4 : Value) (wx : World) : Prop :=
  ∃ B : Nat, ∃ ap : Option Addr, ∃ cp lo hi : Nat, s4 = .pointer (some ⟨B, 0, none⟩) ∧ wx.cell? ⟨B, 0, none⟩ = some (.slice ap n cp) ∧ wx.cell? ⟨B, 1, none⟩ = some (.slice none 0 0) ∧ Hid (Below w1.heap.size w1 wx) ∧ Hid (OwnP wx lo hi ap n (fun _ => 48) Z)
theorem toSet {w1 w3 : World} {B n lo hi cp : Nat} {ap : Option Addr} {Z : Nat → Nat → Int} {x y : Value} (hb : Below w1.heap.size w1 w3) (hB : w1.heap.size ≤ B) (hop : OwnP w3 lo hi ap n (fun _ => 48) Z) (hd : B < lo) (k0 : w3.cell? ⟨B, 0, none⟩ = some x) (k1 : w3.cell? ⟨B, 1, none⟩ = some y) :
    ToM w1 n Z (.pointer (some ⟨B, 0, none⟩)) ((w3.setCell ⟨B, 0, none⟩ (.slice ap n cp)).setCell ⟨B, 1, none⟩ (.slice none 0 0)) := by
  refine ⟨B, ap, cp, lo, hi, rfl, ?_, ?_, (hb.setCell hB _).setCell hB _, hop.writes (lo' := B) (hi' := B + 1) ?_ (.inr (by omega))⟩
  · rw [setO (by omega)]; exact setS k0
  · exact setS (by rw [setO (by omega)]; exact k1)
  · exact Writes.setCell (Writes.setCell (Writes.refl _ _ _) (p := ⟨B, 0, none⟩) (Nat.le_refl _) (Nat.lt_succ_self _) _) (p := ⟨B, 1, none⟩) (Nat.le_refl _) (Nat.lt_succ_self _) _
theorem toMa {w1 w2 w3 : World} {n cp : Nat} {ap : Option Addr} {Z : Nat → Nat → Int} {x y : Value} (hb2 : Below w1.heap.size w1 w2) (hz : w1.heap.size < w2.heap.size) (hb3 : Below w2.heap.size w2 w3) (hop : OwnP w3 w2.heap.size w3.heap.size ap n (fun _ => 48) Z) (k0 : w3.cell? ⟨w1.heap.size, 0, none⟩ = some x) (k1 : w3.cell? ⟨w1.heap.size, 1, none⟩ = some y) :
    ToM w1 n Z (.pointer (some ⟨w1.heap.size, 0, none⟩)) ((w3.setCell ⟨w1.heap.size, 0, none⟩ (.slice ap n cp)).setCell ⟨w1.heap.size, 1, none⟩ (.slice none 0 0)) :=
  toSet (below_then hb2 hb3) (Nat.le_refl _) hop hz k0 k1
theorem toMb {w1 w2 w3 : World} {n cp : Nat} {ap : Option Addr} {Z : Nat → Nat → Int} {x y x' y' : Value} {t : TypeId} (hb2 : Below w1.heap.size w1 w2) (hb3 : Below (w2.alloc (.cells #[x', y'] t)).heap.size (w2.alloc (.cells #[x', y'] t)) w3) (hop : OwnP w3 (w2.alloc (.cells #[x', y'] t)).heap.size w3.heap.size ap n (fun _ => 48) Z) (k0 : w3.cell? ⟨w2.heap.size, 0, none⟩ = some x) (k1 : w3.cell? ⟨w2.heap.size, 1, none⟩ = some y) :
    ToM w1 n Z (.pointer (some ⟨w2.heap.size, 0, none⟩)) ((w3.setCell ⟨w2.heap.size, 0, none⟩ (.slice ap n cp)).setCell ⟨w2.heap.size, 1, none⟩ (.slice none 0 0)) :=
  toSet (below_then hb2 (below_then (below_new _ _) hb3)) hb2.size hop (by rw [World.size_alloc]; omega) k0 k1
theorem toMc {w1 w2 w3 : World} {n cp : Nat} {ap : Option Addr} {Z : Nat → Nat → Int} {t : TypeId} (hb2 : Below w1.heap.size w1 w2) (hb3 : Below w2.heap.size w2 w3) (hop : OwnP w3 w2.heap.size w3.heap.size ap n (fun _ => 48) Z) :
    ToM w1 n Z (.pointer (some ⟨w3.heap.size, 0, none⟩)) (w3.alloc (.cells #[.slice ap n cp, .slice none 0 0] t)) :=
  ⟨w3.heap.size, ap, cp, _, _, rfl, by simp, by simp, below_then (below_then hb2 hb3) (below_new _ _), hop.below (below_new _ _)⟩
set_option maxHeartbeats 4000000 in
theorem implTo_any (D : Dk) (a a' : Option Addr) (cap cap' : Nat) (w : World) (hs : Small D) (hby : DiskByt D) (h : DiskAt w a a' D) :
    Calls Try.prog 28 #[.agg #[.slice a D.n cap, .slice a' D.m cap']] w (IRes (df D) (tor D D.n) w) := by
  have hb0 : ∀ o1 o2, Below w.heap.size w ((w.alloc o1).alloc o2) := fun o1 o2 => ((Below.refl _ _).alloc (Nat.le_refl _) _).alloc (by simp) _
  obtain ⟨i0, hi, hz0, hz1, hz2⟩ := info_parts info2
  have HI : Hid (Try.prog.info? 2 = some i0 ∧ i0.zero = some (.int .i64 0) ∧ i0.size = 1 ∧ i0.bytes = 8) := ⟨hi, hz0, hz1, hz2⟩
  have HS : Hid (Small D) := hs
  have HA : Hid (DiskAt w a a' D) := h
  have HY : Hid (DiskByt D) := hby
  clear hs h hby hi hz0 hz1 hz2
  by_cases hf : df D = 0
  · have HG : Hid (GoodD D) := goodD_of hf
    have hn8 := HG.out.n8
    have hm60 := HG.out.m
    have HFI : Hid (∀ i, i < D.m → 0 ≤ idF i ∧ idF i < D.m) := fun i hi => ⟨by unfold idF; omega, by unfold idF; omega⟩
    have HF : Hid (df D = 0) := hf
    have hfc := field_code
    go_enter Try.func28, Try.ntmps28
    go_wp2_with fail
    refine (implDf_any D a a' cap cap' _ HS.out (HA.out.below (hb0 _ _))).mono ?_
    rintro e w1 ⟨rfl, hb1⟩
    rw [hf]
    obtain ⟨hcc, hff⟩ := bcell hb1
    have hz : w.heap.size + 2 ≤ w1.heap.size := by have := hb1.size; simp at this; omega
    have q0 : w1.cell? ⟨w.heap.size, 0, none⟩ = some (.slice a D.n cap) := by rw [hcc _ _ (by simp <;> omega)]; simp [go_sem]
    have q1 : w1.cell? ⟨w.heap.size, 1, none⟩ = some (.slice a' D.m cap') := by rw [hcc _ _ (by simp <;> omega)]; simp [go_sem]
    have r0 : w1.cell? ⟨w.heap.size + 1, 0, none⟩ = some (.int .i64 0) := by rw [hcc _ _ (by simp <;> omega)]; simp [go_sem]
    have r1 : w1.cell? ⟨w.heap.size + 1, 1, none⟩ = some (.slice none 0 0) := by rw [hcc _ _ (by simp <;> omega)]; simp [go_sem]
    have fz : ∀ i, w1.frozen? ⟨w.heap.size + 1, i, none⟩ = false := fun i => by rw [hff _ _ (by simp <;> omega)]; simp [go_sem]
    have HB1 : Hid (Below w.heap.size w w1) := below_then (hb0 _ _) hb1
    clear hcc hff hb1 hb0 hf
    go_upto_region 4 with fail
    go_cut [4] (fun s4 wx => ToM w1 D.n (stl D idF D.m) s4 wx)
    case first =>
      have q0a := fun o : Obj => cell_alloc q0 o
      have q1a := fun o : Obj => cell_alloc q1 o
      go_region_law (first | (go_simp; go_at_call 63; refine (loosePlaces_any D.n D.m a a' cap cap' _ hm60).mono ?_; rintro e w2 ⟨vp, cvp, rfl, hb2, hin2⟩; first | (have hbq2 := toB hb2; have s0 := cell_below q0 hbq2; have s1 := cell_below q1 hbq2; have s0a := fun o : Obj => cell_alloc s0 o; have s1a := fun o : Obj => cell_alloc s1 o) | (obtain ⟨hbq2, hbz, n0, n1, nf⟩ := toB2 hb2; have s0 := cell_below q0 hbq2; have s1 := cell_below q1 hbq2)) | (go_simp; go_at_call 62; refine (settle_any D D.m idF a a' vp cap cap' cvp _ HG.out (by omega) HFI.out ?_ ?_).mono ?_; (first | exact HA.out.below (below_then HB1.out hbq2) | exact (HA.out.below (below_then HB1.out hbq2)).below (below_new _ _)); (first | exact hin2 | exact hin2.below (below_new _ _)); rintro e w3 ⟨ap, cp, rfl, hb3, hop⟩; first | (have k0 := cell_below n0 hb3; have k1 := cell_below n1 hb3; have kf := frozen_below n0 nf hb3; have hM := toMa hbq2 hbz hb3 hop (cp := cp) k0 k1) | (obtain ⟨k0, k1, kf⟩ := toB3 hb3; have hM := toMb hbq2 hb3 hop (cp := cp) k0 k1) | (have hM := toMc hbq2 hb3 hop (cp := cp) (t := 38))))
      all_goals
        go_wp2_with fail
        go_meet
        exact hM
    case rest =>
      obtain ⟨B, ap, cp, lo, hi, rfl, b0, b1, HBX, HOP⟩ := hcut
      have HB2 : Hid (Below w.heap.size w wc) := below_then HB1.out HBX.out
      have HT0 : Hid (Tt wc.heap.size w wc (.slice none 0 0) []) := ⟨HB2.out, Nat.le_refl _, World.ownsRow_nil _ _ _ _⟩
      have s0 := cell_below r0 HBX.out
      have s1 := cell_below r1 HBX.out
      have sf : ∀ i, wc.frozen? ⟨w.heap.size + 1, i, none⟩ = false := fun i => (HBX.out.frozen (p := ⟨w.heap.size + 1, i, none⟩) (by show w.heap.size + 1 < _; omega)).trans (fz i)
      have hzc : w.heap.size + 2 ≤ wc.heap.size := Nat.le_trans hz HBX.out.size
      have hBl : B < wc.heap.size := Go.block_lt_of_cell b0
      clear q0 q1 r0 r1 fz
      go_wp2_with fail
      go_loopw [5, 6, 20] (fun v _ i wr => ∃ k : Nat, ∃ va : Option Addr, ∃ vcap : Nat, i = .int .i64 k ∧ v = .slice va (tor D k).length vcap ∧ k ≤ D.n ∧ Hid (Tt wc.heap.size w wr (.slice va (tor D k).length vcap) (tor D k)) ∧ Hid (Below wc.heap.size wc wr)) (fun _ _ i _ => D.n - (intOf i).toNat)
      case atStart => exact ⟨0, none, 0, rfl, rfl, by omega, HT0, Below.refl _ _⟩
      case round =>
        obtain ⟨k, va, vcap, rfl, rfl, hk, HT, HBR⟩ := hrel
        have c0 := cell_below b0 HBR.out
        have c1 := cell_below b1 HBR.out
        by_cases hlt : k < D.n
        · have hlt' : (k : Int) < (D.n : Int) := by omega
          have hln := tor_len D k
          have HLN : Hid ((tor D k).length ≤ k) := hln
          clear hln
          go_wp2_with fail
          refine (readSettled_any D.n k (stl D idF D.m) ap cp lo hi wr hlt (stl_idByt HG.out HY.out hlt) (HOP.out.below HBR.out)).mono ?_
          rintro e w4 hP
          obtain ⟨I, L, v4, rfl, hb4⟩ := hP.code
          have HT4 : Hid (Tt wc.heap.size w w4 (.slice va (tor D k).length vcap) (tor D k)) := HT.out.mono hb4
          have HB4 : Hid (Below wc.heap.size wc w4) := below_then HBR.out hb4
          clear hb4 hP
          by_cases hc : rsC (stl D idF D.m k) k = 0
          · rw [hc]
            have HT5 : Hid (Tt wc.heap.size w w4 (.slice va (tor D (k + 1)).length vcap) (tor D (k + 1))) := by rw [tor_no hc]; exact HT4
            have hl5 : (tor D (k + 1)).length = (tor D k).length := by rw [tor_no hc]
            have HL5 : Hid ((tor D (k + 1)).length = (tor D k).length) := hl5
            clear hl5
            go_wp2_with fail
            go_roundw
            case rel => exact ⟨k + 1, va, vcap, by go_num, by rw [HL5.out], hlt, HT5, HB4⟩
            case measure => simp [intOf]; omega
          · have hc2 : (rsC (stl D idF D.m k) k != 0) = true := by simpa using hc
            have HTY : Hid (tor D (k + 1) = tor D k ++ [(k : Int)]) := tor_yes hc
            generalize rsC (stl D idF D.m k) k = cq at *
            clear hc
            go_wp2_with (at_builtin; refine wpList_append_own _ rfl (.tmp 28) (.tmp 30) 54 rfl wc.heap.size 2 i0 (.int .i64 0) 1 8 Try.underlying54 HI.out.1 HI.out.2.1 HI.out.2.2.1 HI.out.2.2.2 rfl (by decide) _ (tor D k).length (il (tor D k)) rfl (HT4.out.own.alloc _) ⟨w4.heap.size, 0, none⟩ 1 1 [.int .i64 k] rfl rfl (cell_one_new _ _ _) (one_i64 _) ?c3 ?c4 ?c5 ?_)
            case c3 => have := HLN.out; unfold maxLen; omega
            case c4 => have := HLN.out; omega
            case c5 => have := HT4.out.hsz; first | omega | (rw [World.size_alloc]; omega)
            intro v1 w5 ho1 hg1 _
            obtain ⟨va1, vc1, rfl⟩ := slice_of_ints ho1
            have hT5 := HT4.out.step (x := (k : Int)) (by have := HB2.out.size; omega) ho1 hg1
            have HB5 : Hid (Below wc.heap.size wc w5) := (HB4.out.alloc HB4.out.size _).grown hg1 (by rw [World.size_alloc]; have := HB4.out.size; omega) (fun q hq => (HT4.out.own.lt q hq).1)
            have HL5 : Hid ((tor D (k + 1)).length = (tor D k).length + 1) := by show _ = _; rw [HTY.out]; simp
            have HT5 : Hid (Tt wc.heap.size w w5 (.slice va1 (tor D (k + 1)).length vc1) (tor D (k + 1))) := by show Tt _ _ _ _ _; rw [HL5.out, HTY.out]; exact hT5
            clear ho1 hg1 hT5
            go_wp2_with fail
            go_roundw
            case rel => exact ⟨k + 1, va1, vc1, by go_num, by rw [HL5.out], hlt, HT5, HB5⟩
            case measure => simp [intOf]; omega
        · have hkn : k = D.n := by omega
          have HT5 : Hid (Tt wc.heap.size w wr (.slice va (tor D D.n).length vcap) (tor D D.n)) := by show Tt _ _ _ _ _; rw [← hkn]; exact HT.out
          have HKN : Hid (tor D k = tor D D.n) := by show _ = _; rw [hkn]
          have t0 := cell_below s0 HBR.out
          have t1 := cell_below s1 HBR.out
          have tf : ∀ i, wr.frozen? ⟨w.heap.size + 1, i, none⟩ = false := fun i => (HBR.out.frozen (p := ⟨w.heap.size + 1, i, none⟩) (by show w.heap.size + 1 < _; omega)).trans (sf i)
          have hnl : ¬ ((k : Int) < (D.n : Int)) := by omega
          clear hkn hlt s0 s1 sf
          rw [HKN.out]
          go_wp2_with fail
          refine bodyPost_ret (v := .agg #[.int .i64 0, .slice va (tor D D.n).length vcap]) (by simp [results, Try.results28, go_sem, *]) rfl ?_
          refine ires_ok (l := w.heap.size + 1) (h := w.heap.size + 2) HF.out HT5.out.below (by omega) (by omega) hzc HT5.out.own ?_ (by simp [World.setCell])
          repeat (first | exact Writes.refl _ _ _ | refine Writes.setCell ?_ (by first | omega | (simp <;> omega)) (by first | omega | (simp <;> omega)) _)
  · have hd : (df D != 0) = true := by simpa using hf
    have HNZ : Hid (df D ≠ 0) := hf
    go_enter Try.func28, Try.ntmps28
    go_wp2_with fail
    refine (implDf_any D a a' cap cap' _ HS.out (HA.out.below (hb0 _ _))).mono ?_
    rintro e w1 ⟨rfl, hb1⟩
    obtain ⟨hcc, hff⟩ := bcell hb1
    generalize df D = c at *
    clear hf
    go_wp2_with fail
    refine bodyPost_ret (v := .agg #[.int .i64 c, .slice none 0 0]) (by simp [results, Try.results28, go_sem, hcc]) rfl ?_
    refine ires_bad ?_ HNZ.out
    repeat (first | exact below_then (hb0 _ _) hb1 | refine Below.setCell ?_ (by first | omega | (simp <;> omega)) _)
/-- The same, and the list stands in cell 1 of the box B. -/
structure Tb (B : Nat) (w w1 wr : World) (v : Value) (zs : List Int) : Prop where
  tt : Tt (B + 1) w wr v zs
  c0 : wr.cell? ⟨B, 0, none⟩ = some (.int .i64 0)
  c1 : wr.cell? ⟨B, 1, none⟩ = some v
  fz : ∀ i, wr.frozen? ⟨B, i, none⟩ = false
  old : ∀ q, q < B → wr.heap[q]? = w1.heap[q]?
theorem Tb.mono {B : Nat} {w w1 wr wq : World} {v : Value} {zs : List Int} (h : Tb B w w1 wr v zs) (hb : Below wr.heap.size wr wq) : Tb B w w1 wq v zs := by
  have hsz := h.tt.hsz
  exact ⟨h.tt.mono hb, cell_below h.c0 hb, cell_below h.c1 hb, frozen_below h.c0 h.fz hb, fun q hq => (hb.block q (by omega)).trans (h.old q hq)⟩
theorem Tb.step {B : Nat} {w w1 wr w2 : World} {v v' : Value} {zs : List Int} {x : Int} {o : Obj} (h : Tb B w w1 wr v zs) (hB : w.heap.size ≤ B) (ho : w2.ownsRow (B + 1) 2 1 v' (zs.length + 1) (il zs ++ [.int .i64 x])) (hg : (wr.alloc o).grownBy w2 v.ownBlock) :
    (w2.cell? ⟨B, 1, none⟩ = some v ∧ ∀ i, w2.frozen? ⟨B, i, none⟩ = false) ∧ Tb B w w1 (w2.setCell ⟨B, 1, none⟩ v') v' (zs ++ [x]) := by
  have hsz := h.tt.hsz
  have hT := h.tt.step (x := x) (by omega) ho hg
  have hblk : ∀ q, q < B + 1 → w2.heap[q]? = wr.heap[q]? := fun q hq => (hg.block q (by rw [World.size_alloc]; omega) (fun e => by have := (h.tt.own.lt q e.symm).1; omega)).trans (Below.heap_alloc _ _ _ (by omega))
  have hc : ∀ i, w2.cell? ⟨B, i, none⟩ = wr.cell? ⟨B, i, none⟩ := fun i => World.cell?_of_block (w := wr) (a := ⟨B, i, none⟩) (hblk B (by omega))
  have hf : ∀ i, w2.frozen? ⟨B, i, none⟩ = false := fun i => (World.frozen?_of_block (w := wr) (a := ⟨B, i, none⟩) (hblk B (by omega))).trans (h.fz i)
  refine ⟨⟨(hc 1).trans h.c1, hf⟩, ⟨hT.below.setCell (p := ⟨B, 1, none⟩) hB _, by have := hT.hsz; simpa [World.setCell] using this, ownsRow_setCell_below (a := ⟨B, 1, none⟩) hT.own (by show B < B + 1; omega) _⟩, ?_, setS ((hc 1).trans h.c1), fun i => by rw [World.frozen?_setCell]; exact hf i, fun q hq => ?_⟩
  · rw [setO (by omega)]; exact (hc 0).trans h.c0
  · rw [Below.heap_setCell _ _ _ _ (by show q ≠ B; omega)]; exact (hblk q (by omega)).trans (h.old q hq)
set_option maxHeartbeats 4000000 in
theorem specTo_any (D : Dk) (a a' : Option Addr) (cap cap' : Nat) (w : World) (hs : Small D) (hby : DiskByt D) (h : DiskAt w a a' D) :
    Calls Try.prog 27 #[.agg #[.slice a D.n cap, .slice a' D.m cap']] w (IRes (df D) (tor D D.n) w) := by
  have hb0 : ∀ o1 o2, Below w.heap.size w ((w.alloc o1).alloc o2) := fun o1 o2 => ((Below.refl _ _).alloc (Nat.le_refl _) _).alloc (by simp) _
  obtain ⟨i0, hi, hz0, hz1, hz2⟩ := info_parts info2
  have HI : Hid (Try.prog.info? 2 = some i0 ∧ i0.zero = some (.int .i64 0) ∧ i0.size = 1 ∧ i0.bytes = 8) := ⟨hi, hz0, hz1, hz2⟩
  have HS : Hid (Small D) := hs
  have HA : Hid (DiskAt w a a' D) := h
  have HY : Hid (DiskByt D) := hby
  clear hs h hby hi hz0 hz1 hz2
  by_cases hf : df D = 0
  · have HG : Hid (GoodD D) := goodD_of hf
    have hn8 := HG.out.n8
    have HF : Hid (df D = 0) := hf
    have hfc := field_code
    go_enter Try.func27, Try.ntmps27
    go_wp2_with fail
    refine (specDf_any D a a' cap cap' _ HS.out (HA.out.below (hb0 _ _))).mono ?_
    rintro e w1 ⟨rfl, hb1⟩
    rw [hf]
    obtain ⟨hcc, hff⟩ := bcell hb1
    have hz : w.heap.size + 2 ≤ w1.heap.size := by have := hb1.size; simp at this; omega
    have q0 : w1.cell? ⟨w.heap.size, 0, none⟩ = some (.slice a D.n cap) := by rw [hcc _ _ (by simp <;> omega)]; simp [go_sem]
    have q1 : w1.cell? ⟨w.heap.size, 1, none⟩ = some (.slice a' D.m cap') := by rw [hcc _ _ (by simp <;> omega)]; simp [go_sem]
    have r0 : w1.cell? ⟨w.heap.size + 1, 0, none⟩ = some (.int .i64 0) := by rw [hcc _ _ (by simp <;> omega)]; simp [go_sem]
    have r1 : w1.cell? ⟨w.heap.size + 1, 1, none⟩ = some (.slice none 0 0) := by rw [hcc _ _ (by simp <;> omega)]; simp [go_sem]
    have fz : ∀ i, w1.frozen? ⟨w.heap.size + 1, i, none⟩ = false := fun i => by rw [hff _ _ (by simp <;> omega)]; simp [go_sem]
    have HB1 : Hid (Below w.heap.size w w1) := below_then (hb0 _ _) hb1
    clear hcc hff hb1 hb0 hf
    have HT0 : Hid (Tb w1.heap.size w w1 (w1.alloc (.cells #[.int .i64 0, .slice none 0 0] 56)) (.slice none 0 0) []) :=
      ⟨⟨HB1.out.alloc HB1.out.size _, by rw [World.size_alloc]; omega, World.ownsRow_nil _ _ _ _⟩, by simp, by simp, fun i => by simp, fun q hq => Below.heap_alloc _ _ _ hq⟩
    go_wp2_with fail
    go_loopw [5] (fun i wr => ∃ k : Nat, ∃ va : Option Addr, ∃ vcap : Nat, i = .int .i64 k ∧ k ≤ D.n ∧ Hid (Tb w1.heap.size w w1 wr (.slice va (tor D k).length vcap) (tor D k))) (fun i _ => D.n - (intOf i).toNat)
    case atStart => exact ⟨0, none, 0, rfl, by omega, HT0⟩
    case round =>
      obtain ⟨k, va, vcap, rfl, hk, HT⟩ := hrel
      have hco : ∀ b i, b < w1.heap.size → wr.cell? ⟨b, i, none⟩ = w1.cell? ⟨b, i, none⟩ := fun b i hb => World.cell?_of_block (w := w1) (a := ⟨b, i, none⟩) (HT.out.old b hb)
      have c0 : wr.cell? ⟨w.heap.size, 0, none⟩ = some (.slice a D.n cap) := (hco _ _ (by omega)).trans q0
      have c1 : wr.cell? ⟨w.heap.size, 1, none⟩ = some (.slice a' D.m cap') := (hco _ _ (by omega)).trans q1
      by_cases hlt : k < D.n
      · have hlt' : (k : Int) < (D.n : Int) := by omega
        have HLN : Hid ((tor D k).length ≤ k) := tor_len D k
        clear hco
        go_wp2_with fail
        refine (l2Read_any D k a a' cap cap' _ HG.out HY.out hlt (HA.out.below HT.out.tt.below)).mono ?_
        rintro e w4 hP
        obtain ⟨I, L, v4, rfl, hb4⟩ := hP.code
        have HT4 : Hid (Tb w1.heap.size w w1 w4 (.slice va (tor D k).length vcap) (tor D k)) := HT.out.mono hb4
        clear hb4 hP
        by_cases hc : rsC (stl D idF D.m k) k = 0
        · rw [hc]
          have HT5 : Hid (Tb w1.heap.size w w1 w4 (.slice va (tor D (k + 1)).length vcap) (tor D (k + 1))) := by rw [tor_no hc]; exact HT4
          go_wp2_with fail
          go_roundw
          case rel => exact ⟨k + 1, va, vcap, by go_num, hlt, HT5⟩
          case measure => simp [intOf]; omega
        · have hc2 : (rsC (stl D idF D.m k) k != 0) = true := by simpa using hc
          have HTY : Hid (tor D (k + 1) = tor D k ++ [(k : Int)]) := tor_yes hc
          generalize rsC (stl D idF D.m k) k = cq at *
          have d1 := HT4.out.c1
          clear hc
          go_wp2_with (at_builtin; refine wpList_append_own _ rfl (.tmp 26) (.tmp 28) 54 rfl (w1.heap.size + 1) 2 i0 (.int .i64 0) 1 8 Try.underlying54 HI.out.1 HI.out.2.1 HI.out.2.2.1 HI.out.2.2.2 rfl (by decide) _ (tor D k).length (il (tor D k)) rfl (HT4.out.tt.own.alloc _) ⟨w4.heap.size, 0, none⟩ 1 1 [.int .i64 k] rfl rfl (cell_one_new _ _ _) (one_i64 _) ?c3 ?c4 ?c5 ?_)
          case c3 => have := HLN.out; unfold maxLen; omega
          case c4 => have := HLN.out; omega
          case c5 => have := HT4.out.tt.hsz; first | omega | (rw [World.size_alloc]; omega)
          intro v1 w5 ho1 hg1 _
          obtain ⟨va1, vc1, rfl⟩ := slice_of_ints ho1
          obtain ⟨⟨e1, ef⟩, hT5⟩ := HT4.out.step (x := (k : Int)) HB1.out.size ho1 hg1
          have HL5 : Hid ((tor D (k + 1)).length = (tor D k).length + 1) := by show _ = _; rw [HTY.out]; simp
          have HT5 : Hid (Tb w1.heap.size w w1 (w5.setCell ⟨w1.heap.size, 1, none⟩ (.slice va1 ((tor D k).length + 1) vc1)) (.slice va1 (tor D (k + 1)).length vc1) (tor D (k + 1))) := by show Tb _ _ _ _ _ _; rw [HL5.out, HTY.out]; exact hT5
          clear ho1 hg1 hT5 d1
          go_wp2_with fail
          go_roundw
          case rel => exact ⟨k + 1, va1, vc1, by go_num, hlt, HT5⟩
          case measure => simp [intOf]; omega
      · have hkn : k = D.n := by omega
        have HT5 : Hid (Tb w1.heap.size w w1 wr (.slice va (tor D D.n).length vcap) (tor D D.n)) := by show Tb _ _ _ _ _ _; rw [← hkn]; exact HT.out
        have t0 : wr.cell? ⟨w.heap.size + 1, 0, none⟩ = some (.int .i64 0) := (hco _ _ (by omega)).trans r0
        have t1 : wr.cell? ⟨w.heap.size + 1, 1, none⟩ = some (.slice none 0 0) := (hco _ _ (by omega)).trans r1
        have tf : ∀ i, wr.frozen? ⟨w.heap.size + 1, i, none⟩ = false := fun i => (World.frozen?_of_block (w := w1) (a := ⟨w.heap.size + 1, i, none⟩) (HT.out.old (w.heap.size + 1) (by omega))).trans (fz i)
        have u0 := HT5.out.c0
        have u1 := HT5.out.c1
        have hnl : ¬ ((k : Int) < (D.n : Int)) := by omega
        clear hkn hlt hco HT q0 q1 r0 r1 fz
        go_wp2_with fail
        refine bodyPost_ret (v := .agg #[.int .i64 0, .slice va (tor D D.n).length vcap]) (by simp [results, Try.results27, go_sem, *]) rfl ?_
        refine ires_ok (l := w.heap.size + 1) (h := w.heap.size + 2) HF.out HT5.out.tt.below (by omega) (by omega) (by omega) HT5.out.tt.own ?_ (by simp [World.setCell])
        repeat (first | exact Writes.refl _ _ _ | refine Writes.setCell ?_ (by first | omega | (simp <;> omega)) (by first | omega | (simp <;> omega)) _)
  · have hd : (df D != 0) = true := by simpa using hf
    have HNZ : Hid (df D ≠ 0) := hf
    go_enter Try.func27, Try.ntmps27
    go_wp2_with fail
    refine (specDf_any D a a' cap cap' _ HS.out (HA.out.below (hb0 _ _))).mono ?_
    rintro e w1 ⟨rfl, hb1⟩
    obtain ⟨hcc, hff⟩ := bcell hb1
    generalize df D = c at *
    clear hf
    go_wp2_with fail
    refine bodyPost_ret (v := .agg #[.int .i64 c, .slice none 0 0]) (by simp [results, Try.results27, go_sem, hcc]) rfl ?_
    refine ires_bad ?_ HNZ.out
    repeat (first | exact below_then (hb0 _ _) hb1 | refine Below.setCell ?_ (by first | omega | (simp <;> omega)) _)
end Go.Proofs.Ytgchkpahoilmdaa
