/- Disks in blocks of their own; the laws' copies of them. -/
import Derived.Test.YtaokclhcmgbgnaaGreatQPp
import Derived.Test.YtaokclhcmgbgnaaGreatQBase
namespace Go.Proofs.YtaokclhcmgbgnaaGreat
open Go.RowKit Go.Deep
set_option linter.unusedVariables false
set_option maxRecDepth 20000

theorem step_appB {ops : Array Oper} {o : Oper} {a : Act} {K : Act → World → Prop} {Q : Exit → Act → World → Prop} {E : Prop} (w : World) (hgd : o.guard = none) (s x : Operand)
    (ho : o.op = .call { callee := .builtin .append, args := #[s, x], argTypes := #[27, 27] })
    (base : Nat) (v : Value) (n : Nat) (xs : List Value) (hs : a.eval s = v) (hown : w.ownsRow base 5 1 v n xs)
    (ad : Addr) (m c : Nat) (news : List Value) (hx : a.eval x = .slice (some ad) m c) (hl : news.length = m) (hnews : ∀ j u, news[j]? = some u → w.cell? (ad.add j) = some u) (h1 : ∀ u ∈ news, u.oneCell' = true)
    (h63 : n + m ≤ 100000) (hbase : base ≤ w.heap.size)
    (h : ∀ v' w', w'.ownsRow base 5 1 v' (n + m) (xs ++ news) → w.grownBy w' v.ownBlock → K (a.put o.dst v') w') :
    if Region.wanted o (yielded ops a.tmps) = true then Oper.wp Tryz.prog o a w K Q else E := by
  have hw : Region.wanted o (yielded ops a.tmps) = true := by simp [Region.wanted, hgd]
  rw [if_pos hw]
  obtain ⟨i0, hi, hz0, hz1, hz2⟩ := info_parts info5
  exact wp_append_own w s x 27 ho base 5 i0 _ 1 1 Tryz.underlying27 hi hz0 hz1 hz2 rfl (by decide) v n xs hs hown ad m c news hx (by omega) hnews h1 (by unfold maxLen; omega) (by omega) hbase fun v' w' h2 h3 _ => h v' w' h2 h3
theorem formB {w : World} {base n : Nat} {v : Value} {xs : List Value} (h : w.ownsRow base 5 1 v n xs) (hne : v ≠ .slice none 0 0) : ∃ g cap, v = .slice (some ⟨g, 0, none⟩) n cap ∧ base ≤ g ∧ g < w.heap.size := by
  rcases h.2 with ⟨rfl, h0⟩ | ⟨g, cap, cur, rfl, hb, hg, _⟩
  · exact absurd rfl hne
  · exact ⟨g, cap, rfl, hb, by obtain ⟨hlt, _⟩ := Array.getElem?_eq_some_iff.1 hg; exact hlt⟩
theorem keepB {w W : World} {o o2 : Obj} (h : Below (w.heap.size + 1) (w.alloc o) W.drew) : Below (w.heap.size + 1) (w.alloc o) (W.alloc o2).drew :=
  (Below.alloc (w := W) ⟨h.os, h.tape, h.output, h.size, h.block⟩ (by have := h.size; rw [World.size_alloc] at this; exact this) o2).drew
theorem keepB' {w W : World} {o o2 : Obj} (h : Below (w.heap.size + 1) (w.alloc o) W) : Below (w.heap.size + 1) (w.alloc o) (W.alloc o2) :=
  h.alloc (by have := h.size; rw [World.size_alloc] at this; exact this) o2
theorem hszB {w W : World} {o : Obj} (h : Below (w.heap.size + 1) (w.alloc o) W) : w.heap.size + 1 ≤ W.heap.size := by have := h.size; rw [World.size_alloc] at this; exact this
theorem belB {w W wq : World} {o : Obj} (h : Below (w.heap.size + 1) (w.alloc o) W) (hq : Below W.heap.size W wq) : Below (w.heap.size + 1) (w.alloc o) wq := h.trans (hq.mono (hszB h))
theorem grB {w W wa : World} {o : Obj} {v : Value} {n : Nat} {xs : List Value} (h : Below (w.heap.size + 1) (w.alloc o) W) (ho : W.ownsRow (w.heap.size + 1) 5 1 v n xs) (hg : W.grownBy wa v.ownBlock) : Below (w.heap.size + 1) (w.alloc o) wa :=
  h.grown hg (hszB h) fun q hq => (ho.lt q hq).1
theorem rowB_below {W wq : World} {B n : Nat} {v : Value} {xs : List Value} (h : W.ownsRow B 5 1 v n xs) (hb : Below W.heap.size W wq) : wq.ownsRow B 5 1 v n xs := by
  refine ⟨h.1, ?_⟩
  rcases h.2 with h2 | ⟨g, cap, cur, hv, hbg, hg, r⟩
  · exact .inl h2
  · have hlt : g < W.heap.size := by obtain ⟨hlt, _⟩ := Array.getElem?_eq_some_iff.1 hg; exact hlt
    exact .inr ⟨g, cap, cur, hv, hbg, (hb.block g hlt).trans hg, r⟩
theorem own8a (w : World) (o : Obj) (x : Value) : ((w.alloc o).alloc (.cells #[x] 5)).drew.ownsRow (w.heap.size + 1) 5 1 (.slice (some ⟨w.heap.size + 1, 0, none⟩) 1 1) 1 [x] := by
  have h := World.ownsRow_lit (base := w.heap.size + 1) (size := 1) (e := 5) (w.alloc o) #[x] 1 (by simp) (by unfold maxLen; omega) rfl
  rw [World.size_alloc] at h
  exact h
theorem own8b {B : Nat} {w : World} {x : Value} (hB : B ≤ w.heap.size) : (w.alloc (.cells #[x] 5)).ownsRow B 5 1 (.slice (some ⟨w.heap.size, 0, none⟩) 1 1) 1 [x] := World.ownsRow_lit w #[x] 1 hB (by unfold maxLen; omega) rfl
theorem newsB {W : World} {B n g cap : Nat} {xs : List Value} (h : W.ownsRow B 5 1 (.slice (some ⟨g, 0, none⟩) n cap) n xs) : ∀ j u, xs[j]? = some u → W.cell? ((⟨g, 0, none⟩ : Addr).add j) = some u := h.cells rfl
theorem newsB_alloc {W : World} {B n g cap : Nat} {xs : List Value} {o : Obj} (h : W.ownsRow B 5 1 (.slice (some ⟨g, 0, none⟩) n cap) n xs) : ∀ j u, xs[j]? = some u → (W.alloc o).cell? ((⟨g, 0, none⟩ : Addr).add j) = some u := (h.alloc o).cells rfl
theorem cellsq2 {w W wq : World} {o : Obj} {B i j : Nat} {x y : Value} (h : Below (w.heap.size + 1) (w.alloc o) W ∧ W.cell? ⟨B, i, none⟩ = some x ∧ W.cell? ⟨B, j, none⟩ = some y) (hq : Below W.heap.size W wq) :
    Below (w.heap.size + 1) (w.alloc o) wq ∧ wq.cell? ⟨B, i, none⟩ = some x ∧ wq.cell? ⟨B, j, none⟩ = some y := ⟨belB h.1 hq, cell_below h.2.1 hq, cell_below h.2.2 hq⟩
theorem cellsg {w W wa : World} {o : Obj} {i j : Nat} {x y v : Value} {n : Nat} {xs : List Value} (h : Below (w.heap.size + 1) (w.alloc o) W ∧ W.cell? ⟨w.heap.size, i, none⟩ = some x ∧ W.cell? ⟨w.heap.size, j, none⟩ = some y) (ho : W.ownsRow (w.heap.size + 1) 5 1 v n xs) (hg : W.grownBy wa v.ownBlock) :
    Below (w.heap.size + 1) (w.alloc o) wa ∧ wa.cell? ⟨w.heap.size, i, none⟩ = some x ∧ wa.cell? ⟨w.heap.size, j, none⟩ = some y := by
  have hb := hg.block w.heap.size (by have := hszB h.1; omega) (fun e => by have := (ho.lt _ e.symm).1; omega)
  exact ⟨grB h.1 ho hg, (World.cell?_of_block (w := W) (a := ⟨w.heap.size, i, none⟩) hb).trans h.2.1, (World.cell?_of_block (w := W) (a := ⟨w.heap.size, j, none⟩) hb).trans h.2.2⟩
theorem rowB_down {w : World} {B B' : Nat} {v : Value} {n : Nat} {xs : List Value} (h : w.ownsRow B 5 1 v n xs) (hb : B' ≤ B) : w.ownsRow B' 5 1 v n xs := by
  refine ⟨h.1, ?_⟩
  rcases h.2 with h2 | ⟨g, cap, cur, hv, hg, r⟩
  · exact .inl h2
  · exact .inr ⟨g, cap, cur, hv, by omega, r⟩
theorem cellsq3 {w W wq : World} {o : Obj} {A B C i j l : Nat} {x y z : Value} (h : Below (w.heap.size + 1) (w.alloc o) W ∧ W.cell? ⟨A, i, none⟩ = some x ∧ W.cell? ⟨B, j, none⟩ = some y ∧ W.cell? ⟨C, l, none⟩ = some z) (hq : Below W.heap.size W wq) :
    Below (w.heap.size + 1) (w.alloc o) wq ∧ wq.cell? ⟨A, i, none⟩ = some x ∧ wq.cell? ⟨B, j, none⟩ = some y ∧ wq.cell? ⟨C, l, none⟩ = some z := ⟨belB h.1 hq, cell_below h.2.1 hq, cell_below h.2.2.1 hq, cell_below h.2.2.2 hq⟩
theorem cellsg3 {w W wa : World} {o : Obj} {b i j l : Nat} {x y z v : Value} {n : Nat} {xs : List Value} (hbb : b < w.heap.size) (h : Below (w.heap.size + 1) (w.alloc o) W ∧ W.cell? ⟨w.heap.size, i, none⟩ = some x ∧ W.cell? ⟨b, j, none⟩ = some y ∧ W.cell? ⟨b, l, none⟩ = some z) (ho : W.ownsRow (w.heap.size + 1) 5 1 v n xs) (hg : W.grownBy wa v.ownBlock) :
    Below (w.heap.size + 1) (w.alloc o) wa ∧ wa.cell? ⟨w.heap.size, i, none⟩ = some x ∧ wa.cell? ⟨b, j, none⟩ = some y ∧ wa.cell? ⟨b, l, none⟩ = some z := by
  have hb := hg.block w.heap.size (by have := hszB h.1; omega) (fun e => by have := (ho.lt _ e.symm).1; omega)
  have hc := hg.block b (by have := hszB h.1; omega) (fun e => by have := (ho.lt _ e.symm).1; omega)
  exact ⟨grB h.1 ho hg, (World.cell?_of_block (w := W) (a := ⟨w.heap.size, i, none⟩) hb).trans h.2.1, (World.cell?_of_block (w := W) (a := ⟨b, j, none⟩) hc).trans h.2.2.1, (World.cell?_of_block (w := W) (a := ⟨b, l, none⟩) hc).trans h.2.2.2⟩
theorem newsOne {wr wq : World} {x : Value} (hbq : Below (wr.alloc (.cells #[x] 5)).drew.heap.size (wr.alloc (.cells #[x] 5)).drew wq) : ∀ j u, [x][j]? = some u → wq.cell? ((⟨wr.heap.size, 0, none⟩ : Addr).add j) = some u := by
  intro j u hj
  have h := cell_one_new wr x 5 j u hj
  rw [WideShapes.add_plain] at h ⊢
  exact cell_below (w := (wr.alloc (.cells #[x] 5)).drew) h hbq
/-- The bytes of the call's answer are still there behind an append to an earlier row. -/
theorem keptQ {wr W wa : World} {B Bq n nq gq cq : Nat} {v : Value} {xs ys : List Value} (ho : wr.ownsRow B 5 1 v n xs) (hq : W.ownsRow Bq 5 1 (.slice (some ⟨gq, 0, none⟩) nq cq) nq ys) (hgq : Bq ≤ gq) (hB : wr.heap.size ≤ Bq) (hg : W.grownBy wa v.ownBlock) : wa.ownsRow Bq 5 1 (.slice (some ⟨gq, 0, none⟩) nq cq) nq ys := by
  refine hq.kept hg (.inr fun e => ?_)
  have := (ho.lt gq (by rw [← e]; rfl)).2
  omega
theorem nb_bl4 (x : Int) : (bl (nb x 4)).length = 4 := by rw [bl_len, nb_len]
theorem nb_bl2 (x : Int) : (bl (nb x 2)).length = 2 := by rw [bl_len, nb_len]
theorem byt_small {x : Int} (h0 : 0 ≤ x) (h1 : x ≤ 255) : nb x 1 = [x] := by simp only [nb, byt]; congr 1; simp; omega

set_option maxHeartbeats 4000000 in
theorem specPk_any (idn lsn : Int) (n : Nat) (K V : Nat → Int) (pa : Option Addr) (pcap : Nat) (w : World) (g : GoodP idn lsn n K V) (h : CellsAt w pa n K V) :
    Calls Tryz.prog 30 #[.agg #[.int .i64 idn, .int .i64 lsn, (.slice pa n pcap)]] w fun e w' => ∃ v, e = .returned v ∧ Below w.heap.size w w' ∧ w'.ownsRow w.heap.size 5 1 v (pgb idn lsn n K V).length (bl (pgb idn lsn n K V)) := by
  have HG : Hid (GoodP idn lsn n K V) := g
  obtain ⟨hi1a, hi1b⟩ := inB_iff.1 g.gid
  obtain ⟨hi2a, hi2b⟩ := inB_iff.1 g.glsn
  have hn12 := g.gn
  have hb0 : Below (w.heap.size + 1) (w.alloc (.cells #[.int .i64 idn, .int .i64 lsn, (.slice pa n pcap)] 66)) (w.alloc (.cells #[.int .i64 idn, .int .i64 lsn, (.slice pa n pcap)] 66)).drew := (Below.refl _ _).drew
  have hw8 : IntKind.u8.wrap idn = idn := by rw [IntKind.wrap_u8]; omega
  have HA : Hid (CellsAt w pa n K V) := h
  obtain ⟨i0, hi, hz0, hz1, hz2⟩ := info_parts info5
  have HI : Hid (Tryz.prog.info? 5 = some i0 ∧ i0.zero = some (.int .u8 0) ∧ i0.size = 1 ∧ i0.bytes = 1) := ⟨hi, hz0, hz1, hz2⟩
  clear hi hz0 hz1 hz2 g h
  go_enter Tryz.func30, Tryz.ntmps30
  go_wp2
  have hold0 : Below (w.heap.size + 1) (w.alloc (.cells #[.int .i64 idn, .int .i64 lsn, (.slice pa n pcap)] 66)) (w.alloc (.cells #[.int .i64 idn, .int .i64 lsn, (.slice pa n pcap)] 66)).drew ∧ (w.alloc (.cells #[.int .i64 idn, .int .i64 lsn, (.slice pa n pcap)] 66)).drew.cell? ⟨w.heap.size, 0, none⟩ = some (.int .i64 idn) ∧ (w.alloc (.cells #[.int .i64 idn, .int .i64 lsn, (.slice pa n pcap)] 66)).drew.cell? ⟨w.heap.size, 1, none⟩ = some (.int .i64 lsn) := ⟨hb0, by simp, by simp⟩
  go_region_held3 (fun w' => Below (w.heap.size + 1) (w.alloc (.cells #[.int .i64 idn, .int .i64 lsn, (.slice pa n pcap)] 66)) w' ∧ w'.cell? ⟨w.heap.size, 0, none⟩ = some (.int .i64 idn) ∧ w'.cell? ⟨w.heap.size, 1, none⟩ = some (.int .i64 lsn)) (first | assumption | (obtain ⟨hKa, hKb, hKc⟩ := ‹Below (w.heap.size + 1) _ _ ∧ _ ∧ _›; exact ⟨by first | exact keepB hKa | exact keepB' hKa, by go_keep, by go_keep⟩))
    (first | (go_at_call 88; refine (l1Bytes_any lsn 4 _ (by decide) hi2a hi2b).mono ?_; rintro e wq ⟨vq, rfl, hbq, hoq, hneq⟩; obtain ⟨gq, cq, rfl, hgq⟩ := formB hoq hneq; have HX := (‹Below (w.heap.size + 1) _ _ ∧ _ ∧ _›); have hC := cellsq2 HX hbq; clear HX) | (have HX := (‹Below (w.heap.size + 1) _ _ ∧ _ ∧ _›); refine step_appB _ rfl (.tmp 8) (.tmp 11) rfl (w.heap.size + 1) _ 1 [(.int .u8 idn)] rfl (rowB_below (own8a w _ _) hbq) ⟨gq, 0, none⟩ 4 cq (bl (nb lsn 4)) rfl (nb_bl4 _) (newsB hoq) (bl_one _) (by decide) (hszB HX.1) ?_; intro v12 w12 ho12 hg12; have hS12 := grB HX.1 (rowB_below (own8a w _ _) hbq) hg12; have hD12 := cellsg HX (rowB_below (own8a w _ _) hbq) hg12) | (have HX := (‹Below (w.heap.size + 1) _ _ ∧ _ ∧ _›); refine step_appB _ rfl (.tmp 8) (.tmp 11) rfl (w.heap.size + 1) _ 1 [(.int .u8 idn)] rfl (own8b (hszB hC.1)) ⟨gq, 0, none⟩ 4 cq (bl (nb lsn 4)) rfl (nb_bl4 _) (newsB_alloc hoq) (bl_one _) (by decide) (hszB HX.1) ?_; intro v12 w12 ho12 hg12; have hS12 := grB HX.1 (own8b (hszB hC.1)) hg12; have hD12 := cellsg HX (own8b (hszB hC.1)) hg12))
  all_goals
    have PS12 : Hid (Below (w.heap.size + 1) (w.alloc (.cells #[.int .i64 idn, .int .i64 lsn, (.slice pa n pcap)] 66)) w12 ∧ w12.ownsRow (w.heap.size + 1) 5 1 v12 (nb idn 1 ++ nb lsn 4).length (bl (nb idn 1 ++ nb lsn 4))) := by
      refine ⟨hD12.1, ?_⟩
      rw [byt_small hi1a (by omega), List.length_append, nb_len, bl_app]
      exact ho12
    have k2 : w12.cell? ⟨w.heap.size, 2, none⟩ = some (.slice pa n pcap) := by rw [PS12.out.1.cell (p := ⟨w.heap.size, 2, none⟩) (by simp)]; simp
    have m2 := fun o : Obj => cell_alloc k2 o
    have hwn : IntKind.u8.wrap (n : Int) = (n : Int) := by rw [IntKind.wrap_u8]; omega
    have HSZ : Hid ((w.heap.size + 1) ≤ w12.heap.size) := hszB PS12.out.1
    have HLN : Hid ((nb idn 1 ++ nb lsn 4).length = 5) := by show (nb idn 1 ++ nb lsn 4).length = 5; simp [nb_len]
    clear ho12 hg12 hS12 hD12
    go_wp2_with (at_builtin; refine wpList_append_own _ rfl (.tmp 13) (.tmp 18) 27 rfl (w.heap.size + 1) 5 i0 (.int .u8 0) 1 1 Tryz.underlying27 HI.out.1 HI.out.2.1 HI.out.2.2.1 HI.out.2.2.2 rfl (by decide) _ _ _ rfl (PS12.out.2.alloc _) ⟨w12.heap.size, 0, none⟩ 1 1 [.int .u8 (n : Int)] rfl rfl (cell_one_new _ _ _) (one_u8 _) ?c3 ?c4 ?c5 ?_)
    case c3 => rw [HLN.out]; unfold maxLen; omega
    case c4 => rw [HLN.out]; omega
    case c5 => have := HSZ.out; simp; omega
    intro v19 w19 ho19 hg19 _
    have HR19 := app_byte PS12.out.1 HSZ.out PS12.out.2 ho19 hg19
    have PS19 : Hid (Below (w.heap.size + 1) (w.alloc (.cells #[.int .i64 idn, .int .i64 lsn, (.slice pa n pcap)] 66)) w19 ∧ w19.ownsRow (w.heap.size + 1) 5 1 v19 (hd idn lsn n ++ cb K V 0).length (bl (hd idn lsn n ++ cb K V 0))) := by
      refine ⟨HR19.2, ?_⟩
      rw [cb, List.append_nil, hd, byt_small (x := (n : Int)) (by omega) (by omega)]
      exact HR19.1
    clear ho19 hg19 HR19 PS12 HSZ HLN k2 m2
    obtain ⟨a19, cap19, rfl, -⟩ := slice_of_own PS19.out.2
    go_wp2
    go_loopw [3, 4] (fun v i wr => ∃ k a cap, k ≤ n ∧ i = .int .i64 (k : Nat) ∧ v = .slice a (hd idn lsn n ++ cb K V k).length cap ∧ Hid (Below (w.heap.size + 1) (w.alloc (.cells #[.int .i64 idn, .int .i64 lsn, (.slice pa n pcap)] 66)) wr ∧ wr.ownsRow (w.heap.size + 1) 5 1 (.slice a (hd idn lsn n ++ cb K V k).length cap) (hd idn lsn n ++ cb K V k).length (bl (hd idn lsn n ++ cb K V k)))) (fun _ i _ => n - (intOf i).toNat)
    case atStart => exact ⟨0, a19, cap19, Nat.zero_le _, rfl, rfl, PS19⟩
    case round =>
      clear PS19
      obtain ⟨k, a, cap, hk0, rfl, rfl, PSr⟩ := hrel
      have k2 : wr.cell? ⟨w.heap.size, 2, none⟩ = some (.slice pa n pcap) := by rw [PSr.out.1.cell (p := ⟨w.heap.size, 2, none⟩) (by simp)]; simp
      by_cases hlt : k < n
      · rcases HA.out with h | ⟨b, off, rfl, hbl, hck, hcv⟩
        · omega
        have HBB : Hid (b < w.heap.size) := hbl
        have h1 : wr.cell? ⟨b, off + k * 2, none⟩ = some (.int .i64 (K k)) := by
          rw [PSr.out.1.cell (p := ⟨b, off + k * 2, none⟩) (by have := HBB.out; show b < (w.heap.size + 1); omega)]
          exact cell_alloc (hck k hlt) _
        have h2 : wr.cell? ⟨b, off + k * 2 + 1, none⟩ = some (.int .i64 (V k)) := by
          rw [PSr.out.1.cell (p := ⟨b, off + k * 2 + 1, none⟩) (by have := HBB.out; show b < (w.heap.size + 1); omega)]
          exact cell_alloc (hcv k hlt) _
        clear hck hcv hbl
        have hlt' : (k : Int) < (n : Int) := by omega
        have hkb := HG.out.gkey k hlt
        have hwk : IntKind.u8.wrap (K k) = K k := by rw [IntKind.wrap_u8]; omega
        have HKB : Hid (0 ≤ K k ∧ K k ≤ 255) := ⟨hkb.1, by omega⟩
        have HVB : Hid (0 ≤ V k ∧ V k ≤ 1000000) := by have := HG.out.gval k hlt; exact ⟨this.1, by omega⟩
        have HZL : Hid ((hd idn lsn n ++ cb K V k).length ≤ 1000) := by show (hd idn lsn n ++ cb K V k).length ≤ 1000; rw [List.length_append, hd_len, cb_len]; omega
        have HCB : Hid (hd idn lsn n ++ cb K V (k + 1) = hd idn lsn n ++ cb K V k ++ [K k] ++ nb (V k) 2) := by
          show hd idn lsn n ++ cb K V (k + 1) = _
          rw [cb, byt_small HKB.out.1 HKB.out.2]; simp [List.append_assoc]
        clear hkb
        generalize hd idn lsn n ++ cb K V k = Z at *
        have HO : Hid (wr.ownsRow (w.heap.size + 1) 5 1 (.slice a Z.length cap) Z.length (bl Z)) := PSr.out.2
        have HL1 : Hid (Z.length + 1 ≤ 100000) := by have := HZL.out; show Z.length + 1 ≤ 100000; omega
        have HL2 : Hid (Z.length + 1 + 2 ≤ 100000) := by have := HZL.out; show Z.length + 1 + 2 ≤ 100000; omega
        have HQ1 : Hid (wr.heap.size ≤ (wr.alloc (.cells #[.int .u8 (K k)] 5)).drew.heap.size) := by show wr.heap.size ≤ (wr.alloc (.cells #[.int .u8 (K k)] 5)).heap.size; rw [World.size_alloc]; omega
        have hold1 : Below (w.heap.size + 1) (w.alloc (.cells #[.int .i64 idn, .int .i64 lsn, (.slice (some ⟨b, off, none⟩) n pcap)] 66)) wr.drew ∧ wr.drew.cell? ⟨w.heap.size, 2, none⟩ = some (.slice (some ⟨b, off, none⟩) n pcap) ∧ wr.drew.cell? ⟨b, off + k * 2, none⟩ = some (.int .i64 (K k)) ∧ wr.drew.cell? ⟨b, off + k * 2 + 1, none⟩ = some (.int .i64 (V k)) := ⟨PSr.out.1.drew, k2, h1, h2⟩
        go_wp2
        go_region_held3 (fun w' => Below (w.heap.size + 1) (w.alloc (.cells #[.int .i64 idn, .int .i64 lsn, (.slice (some ⟨b, off, none⟩) n pcap)] 66)) w' ∧ w'.cell? ⟨w.heap.size, 2, none⟩ = some (.slice (some ⟨b, off, none⟩) n pcap) ∧ w'.cell? ⟨b, off + k * 2, none⟩ = some (.int .i64 (K k)) ∧ w'.cell? ⟨b, off + k * 2 + 1, none⟩ = some (.int .i64 (V k))) (first | assumption | (obtain ⟨hKa, hKb, hKc, hKd⟩ := (‹Below (w.heap.size + 1) _ _ ∧ _ ∧ _ ∧ _›); exact ⟨by first | exact keepB hKa | exact keepB' hKa, by go_keep, by go_keep, by go_keep⟩))
          (first | (go_at_call 88; have hk36 := ho36; have HX := (‹Below (w.heap.size + 1) _ _ ∧ _ ∧ _ ∧ _›); refine (l1Bytes_any (V k) 2 _ (by decide) HVB.out.1 HVB.out.2).mono ?_; rintro e wq ⟨vq, rfl, hbq, hoq, hneq⟩; obtain ⟨gq, cq, rfl, hgq⟩ := formB hoq hneq; have hC := cellsq3 HX hbq; clear HX; have hoA := rowB_below hk36 hbq) | (go_at_call 88; have HX := (‹Below (w.heap.size + 1) _ _ ∧ _ ∧ _ ∧ _›); refine (l1Bytes_any (V k) 2 _ (by decide) HVB.out.1 HVB.out.2).mono ?_; rintro e wq ⟨vq, rfl, hbq, hoq, hneq⟩; obtain ⟨gq, cq, rfl, hgq⟩ := formB hoq hneq; have hC := cellsq3 HX hbq; clear HX; skip) | (have HX := (‹Below (w.heap.size + 1) _ _ ∧ _ ∧ _ ∧ _›); refine step_appB _ rfl (.tmp 27) (.tmp 35) rfl (w.heap.size + 1) (.slice a Z.length cap) Z.length (bl Z) rfl (HO.out.alloc _) ⟨wr.heap.size, 0, none⟩ 1 1 [(.int .u8 (K k))] rfl rfl (cell_one_new _ _ _) (one_u8 _) HL1.out (hszB HX.1) ?_; intro v36 w36 ho36 hg36; have hD36 := cellsg3 HBB.out HX (HO.out.alloc _) hg36) | (have HX := (‹Below (w.heap.size + 1) _ _ ∧ _ ∧ _ ∧ _›); refine step_appB _ rfl (.tmp 27) (.tmp 35) rfl (w.heap.size + 1) (.slice a Z.length cap) Z.length (bl Z) rfl (rowB_below (HO.out.alloc _) hbq) ⟨wr.heap.size, 0, none⟩ 1 1 [(.int .u8 (K k))] rfl rfl (newsOne hbq) (one_u8 _) HL1.out (hszB HX.1) ?_; intro v36 w36 ho36 hg36; have hD36 := cellsg3 HBB.out HX (rowB_below (HO.out.alloc _) hbq) hg36; have hoqk := keptQ HO.out hoq hgq.1 HQ1.out hg36) | (have HX := (‹Below (w.heap.size + 1) _ _ ∧ _ ∧ _ ∧ _›); refine step_appB _ rfl (.tmp 27) (.tmp 35) rfl (w.heap.size + 1) (.slice a Z.length cap) Z.length (bl Z) rfl ((rowB_below HO.out hbq).alloc _) ⟨wq.heap.size, 0, none⟩ 1 1 [(.int .u8 (K k))] rfl rfl (cell_one_new _ _ _) (one_u8 _) HL1.out (hszB HX.1) ?_; intro v36 w36 ho36 hg36; have hD36 := cellsg3 HBB.out HX ((rowB_below HO.out hbq).alloc _) hg36; have hoqk := keptQ HO.out (hoq.alloc _) hgq.1 (Nat.le_refl _) hg36) | (have HX := (‹Below (w.heap.size + 1) _ _ ∧ _ ∧ _ ∧ _›); refine step_appB _ rfl (.tmp 36) (.tmp 43) rfl (w.heap.size + 1) v36 (Z.length + 1) (bl Z ++ [(.int .u8 (K k))]) rfl hoA ⟨gq, 0, none⟩ 2 cq (bl (nb (V k) 2)) rfl (nb_bl2 _) (newsB hoq) (bl_one _) HL2.out (hszB HX.1) ?_; intro v44 w44 ho44 hg44; have hD44 := cellsg3 HBB.out HX hoA hg44) | (have HX := (‹Below (w.heap.size + 1) _ _ ∧ _ ∧ _ ∧ _›); refine step_appB _ rfl (.tmp 36) (.tmp 43) rfl (w.heap.size + 1) v36 (Z.length + 1) (bl Z ++ [(.int .u8 (K k))]) rfl ho36 ⟨gq, 0, none⟩ 2 cq (bl (nb (V k) 2)) rfl (nb_bl2 _) (newsB hoqk) (bl_one _) HL2.out (hszB HX.1) ?_; intro v44 w44 ho44 hg44; have hD44 := cellsg3 HBB.out HX ho36 hg44))
        all_goals
          have HR : Hid (Below (w.heap.size + 1) (w.alloc (.cells #[.int .i64 idn, .int .i64 lsn, (.slice (some ⟨b, off, none⟩) n pcap)] 66)) w44 ∧ w44.ownsRow (w.heap.size + 1) 5 1 v44 (hd idn lsn n ++ cb K V (k + 1)).length (bl (hd idn lsn n ++ cb K V (k + 1)))) := by
            refine ⟨hD44.1, ?_⟩
            rw [HCB.out, List.length_append, List.length_append, nb_len, bl_app, bl_app]
            exact ho44
          obtain ⟨a44, cap44, rfl, -⟩ := slice_of_own HR.out.2
          clear hold1 hD44 ho44 hg44 h1 h2 k2
          go_wp2
          go_roundw
          case rel => first | exact ⟨k + 1, a44, cap44, hlt, by go_num, rfl, HR⟩ | ((repeat apply Exists.intro); exact ⟨⟨k + 1, a44, cap44, hlt, by go_num, rfl, HR⟩, rfl⟩)
          case measure => simp [intOf]; omega
      · have hkn : k = n := by omega
        have PSb : Hid (Below (w.heap.size + 1) (w.alloc (.cells #[.int .i64 idn, .int .i64 lsn, (.slice pa n pcap)] 66)) wr ∧ wr.ownsRow (w.heap.size + 1) 5 1 (.slice a (bdy idn lsn n K V).length cap) (bdy idn lsn n K V).length (bl (bdy idn lsn n K V))) := by
          have h := PSr.out
          rw [hkn] at h
          exact h
        have HLE : Hid ((hd idn lsn n ++ cb K V k).length = (bdy idn lsn n K V).length) := by show (hd idn lsn n ++ cb K V k).length = (bdy idn lsn n K V).length; rw [hkn, bdy]
        have HBL : Hid ((bdy idn lsn n K V).length ≤ 46) := by show (bdy idn lsn n K V).length ≤ 46; rw [bdy, List.length_append, hd_len, cb_len]; omega
        have HF0 : Hid (fld idn lsn n K V = bdy idn lsn n K V ++ List.replicate (46 - (bdy idn lsn n K V).length) 0) := rfl
        have HFB : Hid (BytL (fld idn lsn n K V)) := fld_byt _ _ _ _ _
        have HPG : Hid (pgb idn lsn n K V = fld idn lsn n K V ++ nb (sm (fld idn lsn n K V)) 2) := rfl
        clear hkn PSr
        rw [HLE.out]
        clear HLE
        generalize fld idn lsn n K V = F at *
        generalize bdy idn lsn n K V = D at *
        go_wp2
        go_loopg [3] (46 - D.length) (fun gk v wr => ∃ m a cap, gk + m = 46 - D.length ∧ v = .slice a (D ++ List.replicate m 0).length cap ∧ Hid (Below (w.heap.size + 1) (w.alloc (.cells #[.int .i64 idn, .int .i64 lsn, (.slice pa n pcap)] 66)) wr ∧ wr.ownsRow (w.heap.size + 1) 5 1 (.slice a (D ++ List.replicate m 0).length cap) (D ++ List.replicate m 0).length (bl (D ++ List.replicate m 0))))
        case atStart => exact ⟨0, a, cap, by omega, by rw [List.replicate_zero, List.append_nil], by rw [List.replicate_zero, List.append_nil]; exact PSb⟩
        case round =>
          clear PSb
          obtain ⟨m, a2, cap2, hgk, rfl, PSr⟩ := hrel
          have HZL : Hid ((D ++ List.replicate m 0).length = D.length + m) := by show (D ++ List.replicate m 0).length = D.length + m; simp
          generalize hZ : D ++ List.replicate m 0 = Z at *
          have HZ : Hid (D ++ List.replicate m 0 = Z) := hZ
          clear hZ
          have HSZ : Hid ((w.heap.size + 1) ≤ wr.heap.size) := hszB PSr.out.1
          by_cases hlt : Z.length < 46
          · have hlt' : (Z.length : Int) < 46 := by omega
            have HGK : Hid (m + 1 + (gk - 1) = 46 - D.length ∧ 0 < gk) := by have := HZL.out; exact ⟨by omega, by omega⟩
            go_wp2_with (at_builtin; refine wpList_append_own _ rfl (.tmp 48) (.tmp 49) 27 rfl (w.heap.size + 1) 5 i0 (.int .u8 0) 1 1 Tryz.underlying27 HI.out.1 HI.out.2.1 HI.out.2.2.1 HI.out.2.2.2 rfl (by decide) _ _ _ rfl (PSr.out.2.alloc _) ⟨wr.heap.size, 0, none⟩ 1 1 [.int .u8 0] rfl rfl (cell_one_new _ _ _) (one_u8 _) ?c3 ?c4 ?c5 ?_)
            case c3 => unfold maxLen; omega
            case c4 => omega
            case c5 => have := HSZ.out; simp; omega
            intro v50 w50 ho50 hg50 _
            have HR := app_byte PSr.out.1 HSZ.out PSr.out.2 ho50 hg50
            have HR2 : Hid (Below (w.heap.size + 1) (w.alloc (.cells #[.int .i64 idn, .int .i64 lsn, (.slice pa n pcap)] 66)) w50 ∧ w50.ownsRow (w.heap.size + 1) 5 1 v50 (D ++ List.replicate (m + 1) 0).length (bl (D ++ List.replicate (m + 1) 0))) := by
              refine ⟨HR.2, ?_⟩
              rw [List.replicate_succ', ← List.append_assoc, HZ.out]
              exact HR.1
            obtain ⟨a50, cap50, rfl, -⟩ := slice_of_own HR2.out.2
            clear ho50 hg50 HR
            go_wp2
            go_roundg (gk - 1)
            case measure => have := HGK.out.2; omega
            case rel => exact ⟨m + 1, a50, cap50, by have := HGK.out.1; omega, rfl, HR2⟩
          · have hge : ¬ ((Z.length : Int) < 46) := by omega
            have HZF : Hid (Z = F) := by
              have h1 : m = 46 - D.length := by have := HZL.out; omega
              show Z = F
              rw [← HZ.out, h1, HF0.out]
            have HL46 : Hid (Z.length = 46) := by have := HZL.out; have := HBL.out; show Z.length = 46; omega
            have HZB : Hid (BytL Z) := by show BytL Z; rw [HZF.out]; exact HFB.out
            have HSM : Hid (0 ≤ sm Z ∧ sm Z ≤ 65520) := sumB_bd (fun i => Z.getD i 0) Z.length
            clear HZ hgk HZL
            go_wp2_with fail
            refine (specSum_any Z.length (fun i => Z.getD i 0) a2 cap2 wr (by have := HL46.out; omega) (byt_of HZB.out) (bytes_of_own PSr.out.2)).mono ?_
            rintro e wz ⟨rfl, rfl⟩
            go_wp2_with fail
            refine (l1Bytes_any (sm Z) 2 _ (by omega) HSM.out.1 (by have := HSM.out.2; omega)).mono ?_
            rintro e wq ⟨vq, rfl, hbq, hoq, hneq⟩
            obtain ⟨gq, cq, rfl, hgq⟩ := formB hoq hneq
            have HOA : Hid (wq.ownsRow (w.heap.size + 1) 5 1 (.slice a2 Z.length cap2) Z.length (bl Z)) := rowB_below PSr.out.2 hbq
            have HOQ : Hid (∀ j u, (bl (nb (sm Z) 2))[j]? = some u → wq.cell? ((⟨gq, 0, none⟩ : Addr).add j) = some u) := newsB hoq
            have HBQ : Hid (Below (w.heap.size + 1) (w.alloc (.cells #[.int .i64 idn, .int .i64 lsn, (.slice pa n pcap)] 66)) wq) := belB PSr.out.1 hbq
            have HLQ : Hid ((nb (sm Z) 2).length = 2) := nb_len _ _
            rw [HLQ.out]
            clear hoq hneq hgq hbq
            go_wp2_with (at_builtin; refine wpList_append_own _ rfl (.tmp 51) (.tmp 54) 27 rfl (w.heap.size + 1) 5 i0 (.int .u8 0) 1 1 Tryz.underlying27 HI.out.1 HI.out.2.1 HI.out.2.2.1 HI.out.2.2.2 rfl (by decide) _ _ _ rfl HOA.out ⟨gq, 0, none⟩ 2 cq (bl (nb (sm Z) 2)) rfl ?c1 ?c2 (bl_one _) ?c3 ?c4 ?c5 ?_)
            case c1 => rw [bl_len, HLQ.out]
            case c2 => exact HOQ.out
            case c3 => rw [HL46.out]; unfold maxLen; omega
            case c4 => rw [HL46.out]; omega
            case c5 => exact hszB HBQ.out
            intro v55 w55 ho55 hg55 _
            have HB55 : Hid (Below (w.heap.size + 1) (w.alloc (.cells #[.int .i64 idn, .int .i64 lsn, (.slice pa n pcap)] 66)) w55) := grB HBQ.out HOA.out hg55
            have HO55 : Hid (w55.ownsRow (w.heap.size + 1) 5 1 v55 (pgb idn lsn n K V).length (bl (pgb idn lsn n K V))) := by
              show w55.ownsRow (w.heap.size + 1) 5 1 v55 (pgb idn lsn n K V).length (bl (pgb idn lsn n K V))
              rw [HPG.out, ← HZF.out, List.length_append, bl_app, HLQ.out]
              exact ho55
            have HF55 : Hid (w55.ownsRow w.heap.size 5 1 v55 (pgb idn lsn n K V).length (bl (pgb idn lsn n K V))) := rowB_down HO55.out (by omega)
            have HBF : Hid (Below w.heap.size w w55) := (below_new _ _).trans (HB55.out.mono (by omega))
            clear ho55 hg55
            go_wp2
            go_ret
            exact ⟨v55, rfl, HBF.out, HF55.out⟩
def bk (m : Int) (i : Nat) : Int := (m + i) % 256
def mkb (m : Int) (z : Nat → Int) (j i : Nat) : Int := if i < j then bk m i else z i
def Row1 (w : World) (b off n : Nat) (z : Nat → Int) : Prop := (∀ i, i < n → w.cell? ⟨b, off + i, none⟩ = some (.int .u8 (z i))) ∧ (∀ i, i < n → w.frozen? ⟨b, off + i, none⟩ = false)
theorem row1_step {w : World} {b off n k : Nat} {z : Nat → Int} {m : Int} (hlt : k < n) (h : Row1 w b off n (mkb m z k)) : Row1 (w.setCell ⟨b, off + k, none⟩ (.int .u8 ((m + k) % 256))) b off n (mkb m z (k + 1)) := by
  obtain ⟨hc, hf⟩ := h
  refine ⟨fun i hi => ?_, fun i hi => ?_⟩
  · by_cases e : i = k
    · subst e; rw [setS (hc i hi)]; simp [mkb, bk]
    · rw [setO (by omega), hc i hi]
      have : (i < k + 1) ↔ (i < k) := by omega
      simp only [mkb, this]
  · rw [World.frozen?_setCell]; exact hf i hi
set_option maxHeartbeats 400000 in
theorem markByteS_some (n : Nat) (z : Nat → Int) (b off cap lo hi : Nat) (m : Int) (w : World) (hn : n ≤ 8796093022208) (hm1 : 0 ≤ m) (hm2 : m ≤ 8796093022208) (hlo : lo ≤ b) (hhi : b < hi) (hr : Row1 w b off n z) :
    Calls Tryz.prog 111 #[.slice (some ⟨b, off, none⟩) n cap, .int .i64 m] w fun e w' =>
      e = .returned (.int .i64 (m + n)) ∧ Writes lo hi w w' ∧ Row1 w' b off n (mkb m z n) := by
  go_enter Tryz.func111, Tryz.ntmps111
  go_wp2
  go_loopw [1, 5] (fun q i wr => ∃ k : Nat, k ≤ n ∧ i = .int .i64 k ∧ q = .int .i64 (m + k) ∧ Writes lo hi w wr ∧ Row1 wr b off n (mkb m z k)) (fun _ i _ => n - (intOf i).toNat)
  case atStart => exact ⟨0, Nat.zero_le _, rfl, by go_num, Writes.refl _ _ _, ⟨fun i h => by rw [hr.1 i h]; simp [mkb], hr.2⟩⟩
  case round =>
    obtain ⟨k, hk0, rfl, rfl, hb, hrow⟩ := hrel
    by_cases hlt : k < n
    · have h1 := hrow.1 k hlt
      have h3 := hrow.2 k hlt
      have hw : IntKind.u8.wrap (m + k) = (m + k) % 256 := by rw [IntKind.wrap_u8]
      generalize mkb m z k k = x1 at h1
      have HR : Hid (Row1 wr b off n (mkb m z k)) := hrow
      have HB : Hid (Writes lo hi w wr) := hb
      clear hr hrow hb
      go_wp2
      go_roundw
      case rel => exact ⟨k + 1, hlt, by go_num, by go_num, HB.out.setCell (p := ⟨b, _, none⟩) hlo hhi _, row1_step hlt HR.out⟩
      case measure => simp [intOf]; omega
    · have hkn : k = n := by omega
      have HR : Hid (Row1 wr b off n (mkb m z n)) := by have h := hrow; rw [hkn] at h; exact h
      clear hr hrow
      go_wp2
      go_ret
      exact ⟨ret_int (by rw [hkn]), hb, HR.out⟩
theorem markByteS_zero (a : Option Addr) (cap : Nat) (m : Int) (w : World) : Calls Tryz.prog 111 #[.slice a 0 cap, .int .i64 m] w fun e w' => e = .returned (.int .i64 m) ∧ w' = w := by
  go_enter Tryz.func111, Tryz.ntmps111
  go_wp2
  go_loop [1, 5] (fun q i => q = .int .i64 m ∧ i = .int .i64 0) (fun _ _ => 0)
  case atStart => exact ⟨rfl, rfl⟩
  case round =>
    obtain ⟨rfl, rfl⟩ := hrel
    go_wp2
    go_ret
    exact ⟨rfl, rfl⟩
theorem markByteS_any (n : Nat) (z : Nat → Int) (a : Option Addr) (cap lo hi : Nat) (m : Int) (w : World) (hn : n ≤ 8796093022208) (hm1 : 0 ≤ m) (hm2 : m ≤ 8796093022208) (h : OwnB w lo hi a n z) :
    Calls Tryz.prog 111 #[.slice a n cap, .int .i64 m] w fun e w' => e = .returned (.int .i64 (m + n)) ∧ Writes lo hi w w' ∧ OwnB w' lo hi a n (bk m) := by
  obtain ⟨h0, rfl | ⟨b, off, rfl, hlo, hhi, hr⟩⟩ := h
  · refine (markByteS_zero a cap m w).mono ?_
    rintro e w' ⟨rfl, rfl⟩
    exact ⟨ret_int (by omega), Writes.refl _ _ _, h0, .inl rfl⟩
  · refine (markByteS_some n z b off cap lo hi m w hn hm1 hm2 hlo hhi hr).mono ?_
    rintro e w' ⟨rfl, hw, h1, h2⟩
    exact ⟨rfl, hw, Nat.le_trans h0 hw.size, .inr ⟨b, off, rfl, hlo, hhi, fun i hi => by rw [h1 i hi]; simp [mkb, hi], h2⟩⟩
set_option maxHeartbeats 400000 in
theorem heldByteS_some (n b off cap : Nat) (m : Int) (w : World) (hn : n ≤ 8796093022208) (hm1 : 0 ≤ m) (hm2 : m ≤ 8796093022208) (hc : ∀ i, i < n → w.cell? ⟨b, off + i, none⟩ = some (.int .u8 (bk m i))) :
    Calls Tryz.prog 172 #[.slice (some ⟨b, off, none⟩) n cap, .int .i64 m] w fun e w' => e = .returned (.int .i64 (m + n)) ∧ w' = w := by
  go_enter Tryz.func172, Tryz.ntmps172
  go_wp2
  go_loop [1, 5] (fun q i => ∃ k : Nat, k ≤ n ∧ i = .int .i64 k ∧ q = .int .i64 (m + k)) (fun _ i => n - (intOf i).toNat)
  case atStart => exact ⟨0, Nat.zero_le _, rfl, by go_num⟩
  case round =>
    obtain ⟨k, hk0, rfl, rfl⟩ := hrel
    by_cases hlt : k < n
    · have h1 : w.cell? ⟨b, off + k, none⟩ = some (.int .u8 ((m + k) % 256)) := hc k hlt
      have hw : IntKind.u8.wrap (m + k) = (m + k) % 256 := by rw [IntKind.wrap_u8]
      clear hc
      go_wp2
      go_round
      case rel => exact ⟨k + 1, hlt, by go_num, by go_num⟩
      case measure => simp [intOf]; omega
    · have hkn : k = n := by omega
      clear hc
      go_wp2
      go_ret
      exact ⟨rfl, rfl⟩
theorem heldByteS_zero (a : Option Addr) (cap : Nat) (m : Int) (w : World) : Calls Tryz.prog 172 #[.slice a 0 cap, .int .i64 m] w fun e w' => e = .returned (.int .i64 m) ∧ w' = w := by
  go_enter Tryz.func172, Tryz.ntmps172
  go_wp2
  go_loop [1, 5] (fun q i => q = .int .i64 m ∧ i = .int .i64 0) (fun _ _ => 0)
  case atStart => exact ⟨rfl, rfl⟩
  case round =>
    obtain ⟨rfl, rfl⟩ := hrel
    go_wp2
    go_ret
    exact ⟨rfl, rfl⟩
theorem heldByteS_any (n : Nat) (a : Option Addr) (cap : Nat) (m : Int) (w : World) (hn : n ≤ 8796093022208) (hm1 : 0 ≤ m) (hm2 : m ≤ 8796093022208) (h : BytesAt w a n (bk m)) :
    Calls Tryz.prog 172 #[.slice a n cap, .int .i64 m] w fun e w' => e = .returned (.int .i64 (m + n)) ∧ w' = w := by
  rcases h with rfl | ⟨b, off, rfl, _, hc⟩
  · refine (heldByteS_zero a cap m w).mono ?_
    rintro e w' ⟨rfl, rfl⟩
    exact ⟨ret_int (by omega), rfl⟩
  · exact heldByteS_some n b off cap m w hn hm1 hm2 hc
theorem eqByteS_zero (a a' : Option Addr) (cap cap' : Nat) (w : World) : Calls Tryz.prog 106 #[.slice a 0 cap, .slice a' 0 cap'] w fun e w' => e = .returned (.bool true) ∧ w' = w := by
  go_enter Tryz.func106, Tryz.ntmps106
  go_wp2
  go_loop [5] (fun i => i = .int .i64 0) (fun _ => 0)
  case atStart => exact rfl
  case round =>
    obtain rfl := hrel
    go_wp2
    go_ret
    exact ⟨rfl, rfl⟩
theorem eqByteS_any (n : Nat) (z : Nat → Int) (a a' : Option Addr) (cap cap' : Nat) (w : World) (hn : n ≤ 8796093022208) (h : BytesAt w a n z) (h' : BytesAt w a' n z) :
    Calls Tryz.prog 106 #[.slice a n cap, .slice a' n cap'] w fun e w' => e = .returned (.bool true) ∧ Below w.heap.size w w' := by
  have z0 : ∀ (e : Ending) (w' : World), (e = .returned (.bool true) ∧ w' = w) → e = .returned (.bool true) ∧ Below w.heap.size w w' := by
    rintro e w' ⟨rfl, rfl⟩
    exact ⟨rfl, Below.refl _ _⟩
  rcases h with rfl | ⟨b, off, rfl, _, hc⟩
  · exact (eqByteS_zero a a' cap cap' w).mono z0
  · rcases h' with rfl | ⟨b', off', rfl, _, hc'⟩
    · exact (eqByteS_zero _ a' cap cap' w).mono z0
    · refine (eqByteS_same n z b off cap b' off' cap' w (by omega) hc hc').mono ?_
      rintro e w' ⟨rfl, m, rfl⟩
      exact ⟨rfl, below_drewN (Below.refl _ _) _⟩
/-- The n pages at 'a': page i has L i bytes, Z i. -/
def PagesAt (w : World) (a : Option Addr) (n : Nat) (L : Nat → Nat) (Z : Nat → Nat → Int) : Prop :=
  n = 0 ∨ ∃ b off, a = some ⟨b, off, none⟩ ∧ b < w.heap.size ∧ ∀ i, i < n → ∃ ai ci, w.cell? ⟨b, off + i, none⟩ = some (.slice ai (L i) ci) ∧ BytesAt w ai (L i) (Z i) ∧ L i ≤ ci
/-- The n loose writes at 'a'. -/
def LoosesAt (w : World) (a : Option Addr) (n : Nat) (P T : Nat → Int) (L : Nat → Nat) (Z : Nat → Nat → Int) : Prop :=
  n = 0 ∨ ∃ b off, a = some ⟨b, off, none⟩ ∧ b < w.heap.size ∧ ∀ i, i < n → w.cell? ⟨b, off + i * 3, none⟩ = some (.int .i64 (P i)) ∧ w.cell? ⟨b, off + i * 3 + 1, none⟩ = some (.int .i64 (T i)) ∧
    ∃ ai ci, w.cell? ⟨b, off + i * 3 + 2, none⟩ = some (.slice ai (L i) ci) ∧ BytesAt w ai (L i) (Z i) ∧ L i ≤ ci
theorem PagesAt.below {w w' : World} {a : Option Addr} {n : Nat} {L : Nat → Nat} {Z : Nat → Nat → Int} (h : PagesAt w a n L Z) (hb : Below w.heap.size w w') : PagesAt w' a n L Z := by
  rcases h with h | ⟨b, off, ha, hl, hc⟩
  · exact .inl h
  · refine .inr ⟨b, off, ha, Nat.lt_of_lt_of_le hl hb.size, fun i hi => ?_⟩
    obtain ⟨ai, ci, h1, h2, h3⟩ := hc i hi
    exact ⟨ai, ci, (hb.cell (p := ⟨b, off + i, none⟩) hl).trans h1, h2.below hb, h3⟩
theorem LoosesAt.below {w w' : World} {a : Option Addr} {n : Nat} {P T : Nat → Int} {L : Nat → Nat} {Z : Nat → Nat → Int} (h : LoosesAt w a n P T L Z) (hb : Below w.heap.size w w') : LoosesAt w' a n P T L Z := by
  rcases h with h | ⟨b, off, ha, hl, hc⟩
  · exact .inl h
  · refine .inr ⟨b, off, ha, Nat.lt_of_lt_of_le hl hb.size, fun i hi => ?_⟩
    obtain ⟨h0, h1, ai, ci, h2, h3, h4⟩ := hc i hi
    exact ⟨(hb.cell (p := ⟨b, _, none⟩) hl).trans h0, (hb.cell (p := ⟨b, _, none⟩) hl).trans h1, ai, ci, (hb.cell (p := ⟨b, _, none⟩) hl).trans h2, h3.below hb, h4⟩
def sumL (L : Nat → Nat) : Nat → Nat
  | 0 => 0
  | k + 1 => sumL L k + L k

/-! ### laws.szDisk -/
theorem szByteS_any (n : Nat) (a : Option Addr) (cap : Nat) (x : Int) (w : World) (hn : n ≤ 9223372036854775807) (h0 : 0 ≤ x) (h1 : x ≤ 1048576) :
    Calls Tryz.prog 80 #[.slice a n cap, .int .i64 x] w fun e w' => e = .returned (.int .i64 (if x - n < 0 then -1 else x - n)) ∧ w' = w := by
  by_cases h : x - (n : Int) < 0
  · go_enter Tryz.func80, Tryz.ntmps80
    go_wp2
    go_ret
    exact ⟨rfl, rfl⟩
  · go_enter Tryz.func80, Tryz.ntmps80
    go_wp2
    go_ret
    exact ⟨rfl, rfl⟩
set_option maxHeartbeats 400000 in
theorem szByteSS_any (n : Nat) (L : Nat → Nat) (Z : Nat → Nat → Int) (a : Option Addr) (cap : Nat) (x : Int) (w : World) (hn : n ≤ 9223372036854775807) (hL : ∀ i, i < n → L i ≤ 9223372036854775807) (h0 : 0 ≤ x) (h1 : x ≤ 1048576) (h : PagesAt w a n L Z) :
    Calls Tryz.prog 78 #[.slice a n cap, .int .i64 x] w fun e w' => w' = w ∧ ∃ r : Int, e = .returned (.int .i64 r) ∧ (r = -1 ∨ (0 ≤ r ∧ r = x - n - sumL L n)) := by
  by_cases hx : x - (n : Int) < 0
  · clear hL h
    go_enter Tryz.func78, Tryz.ntmps78
    go_wp2
    go_ret
    exact ⟨rfl, _, rfl, .inl rfl⟩
  · go_enter Tryz.func78, Tryz.ntmps78
    have HL : Hid (∀ i, i < n → L i ≤ 9223372036854775807) := hL
    have HA : Hid (PagesAt w a n L Z) := h
    clear hL h
    go_wp2
    go_loop [1, 5] (fun q i => ∃ k : Nat, k ≤ n ∧ i = .int .i64 k ∧ q = .int .i64 (x - n - sumL L k) ∧ 0 ≤ x - n - sumL L k) (fun _ i => n - (intOf i).toNat)
    case atStart => exact ⟨0, Nat.zero_le _, rfl, by simp [sumL], by simp [sumL]; omega⟩
    case round =>
      obtain ⟨k, hk, rfl, rfl, hnn⟩ := hrel
      by_cases hlt : k < n
      · rcases HA.out with h | ⟨b, off, rfl, hl, hc⟩
        · omega
        obtain ⟨ai, ci, hcell, -⟩ := hc k hlt
        have hLk := HL.out k hlt
        have hs : (sumL L (k + 1) : Int) = sumL L k + L k := by simp [sumL]
        generalize hS : (sumL L k : Int) = S at *
        clear hc
        by_cases hneg : x - n - S - (L k : Int) < 0
        · go_wp2_with fail
          refine (szByteS_any (L k) ai ci (x - n - S) w hLk hnn (by omega)).mono ?_
          rintro e w' ⟨rfl, rfl⟩
          rw [if_pos hneg]
          go_wp2
          go_ret
          exact ⟨rfl, _, rfl, .inl rfl⟩
        · go_wp2_with fail
          refine (szByteS_any (L k) ai ci (x - n - S) w hLk hnn (by omega)).mono ?_
          rintro e w' ⟨rfl, rfl⟩
          rw [if_neg (by omega)]
          go_wp2
          go_round
          case rel => exact ⟨k + 1, hlt, by go_num, by rw [hs]; go_num, by rw [hs]; omega⟩
          case measure => simp [intOf]; omega
      · have hkn : k = n := by omega
        go_wp2
        go_ret
        exact ⟨rfl, _, rfl, .inr ⟨by rw [hkn] at hnn; exact hnn, rfl⟩⟩
theorem szLoose_any (p t : Int) (n : Nat) (a : Option Addr) (cap : Nat) (x : Int) (w : World) (hn : n ≤ 9223372036854775807) (h0 : 0 ≤ x) (h1 : x ≤ 1048576) :
    Calls Tryz.prog 147 #[.agg #[.int .i64 p, .int .i64 t, .slice a n cap], .int .i64 x] w fun e w' => e = .returned (.int .i64 (if x - n < 0 then -1 else x - n)) ∧ Below w.heap.size w w' := by
  by_cases h : x - (n : Int) < 0
  · go_enter Tryz.func147, Tryz.ntmps147
    go_wp2_with fail
    refine (szByteS_any n a cap x _ hn h0 h1).mono ?_
    rintro e w' ⟨rfl, rfl⟩
    rw [if_pos (by omega)]
    go_wp2
    go_ret
    exact ⟨rfl, below_new _ _⟩
  · go_enter Tryz.func147, Tryz.ntmps147
    go_wp2_with fail
    refine (szByteS_any n a cap x _ hn h0 h1).mono ?_
    rintro e w' ⟨rfl, rfl⟩
    rw [if_neg (by omega)]
    go_wp2
    go_ret
    exact ⟨rfl, below_new _ _⟩
set_option maxHeartbeats 400000 in
theorem szLooseS_any (n : Nat) (P T : Nat → Int) (L : Nat → Nat) (Z : Nat → Nat → Int) (a : Option Addr) (cap : Nat) (x : Int) (w : World) (hn : n ≤ 9223372036854775807) (hL : ∀ i, i < n → L i ≤ 9223372036854775807) (h0 : 0 ≤ x) (h1 : x ≤ 1048576) (h : LoosesAt w a n P T L Z) :
    Calls Tryz.prog 79 #[.slice a n cap, .int .i64 x] w fun e w' => Below w.heap.size w w' ∧ ∃ r : Int, e = .returned (.int .i64 r) ∧ (r = -1 ∨ (0 ≤ r ∧ r = x - n - sumL L n)) := by
  by_cases hx : x - (n : Int) < 0
  · clear hL h
    go_enter Tryz.func79, Tryz.ntmps79
    go_wp2
    go_ret
    exact ⟨Below.refl _ _, _, rfl, .inl rfl⟩
  · go_enter Tryz.func79, Tryz.ntmps79
    have HL : Hid (∀ i, i < n → L i ≤ 9223372036854775807) := hL
    have HA : Hid (LoosesAt w a n P T L Z) := h
    clear hL h
    go_wp2
    go_loopw [1, 5] (fun q i wr => ∃ k : Nat, k ≤ n ∧ i = .int .i64 k ∧ q = .int .i64 (x - n - sumL L k) ∧ 0 ≤ x - n - sumL L k ∧ Below w.heap.size w wr) (fun _ i _ => n - (intOf i).toNat)
    case atStart => exact ⟨0, Nat.zero_le _, rfl, by simp [sumL], by simp [sumL]; omega, Below.refl _ _⟩
    case round =>
      obtain ⟨k, hk, rfl, rfl, hnn, hb⟩ := hrel
      by_cases hlt : k < n
      · rcases HA.out.below hb with h | ⟨b, off, rfl, hl, hc⟩
        · omega
        obtain ⟨q0, q1, ai, ci, hcell, -⟩ := hc k hlt
        have hLk := HL.out k hlt
        have hs : (sumL L (k + 1) : Int) = sumL L k + L k := by simp [sumL]
        generalize hS : (sumL L k : Int) = S at *
        have HB : Hid (Below w.heap.size w wr) := hb
        clear hc hb
        by_cases hneg : x - n - S - (L k : Int) < 0
        · go_wp2_with fail
          refine (szLoose_any (P k) (T k) (L k) ai ci (x - n - S) wr hLk hnn (by omega)).mono ?_
          rintro e w' ⟨rfl, hb'⟩
          rw [if_pos (by omega)]
          go_wp2
          go_ret
          exact ⟨below_then HB.out hb', _, rfl, .inl rfl⟩
        · go_wp2_with fail
          refine (szLoose_any (P k) (T k) (L k) ai ci (x - n - S) wr hLk hnn (by omega)).mono ?_
          rintro e w' ⟨rfl, hb'⟩
          rw [if_neg (by omega)]
          go_wp2
          go_roundw
          case rel => exact ⟨k + 1, hlt, by go_num, by rw [hs]; go_num, by rw [hs]; omega, below_then HB.out hb'⟩
          case measure => simp [intOf]; omega
      · have hkn : k = n := by omega
        go_wp2
        go_ret
        exact ⟨hb, _, rfl, .inr ⟨by first | exact hnn | (rw [hkn] at hnn; exact hnn), by first | rfl | rw [hkn]⟩⟩
/-- Pages in blocks of their own from lo on, below hi. -/
def OwnP (w : World) (lo hi : Nat) (a : Option Addr) (n : Nat) (L : Nat → Nat) (Z : Nat → Nat → Int) : Prop :=
  hi ≤ w.heap.size ∧ (n = 0 ∨ ∃ b off, a = some ⟨b, off, none⟩ ∧ lo ≤ b ∧ b < hi ∧ ∃ g o c : Nat → Nat, (∀ i j, i < n → j < n → g i = g j → i = j) ∧
    ∀ i, i < n → g i ≠ b ∧ lo ≤ g i ∧ g i < hi ∧ w.cell? ⟨b, off + i, none⟩ = some (.slice (some ⟨g i, o i, none⟩) (L i) (c i)) ∧ Row1 w (g i) (o i) (L i) (Z i) ∧ L i ≤ c i)
/-- Loose writes in blocks of their own from lo on, below hi. -/
def OwnL (w : World) (lo hi : Nat) (a : Option Addr) (n : Nat) (P T : Nat → Int) (L : Nat → Nat) (Z : Nat → Nat → Int) : Prop :=
  hi ≤ w.heap.size ∧ (n = 0 ∨ ∃ b off, a = some ⟨b, off, none⟩ ∧ lo ≤ b ∧ b < hi ∧ ∃ g o c : Nat → Nat, (∀ i j, i < n → j < n → g i = g j → i = j) ∧
    ∀ i, i < n → g i ≠ b ∧ lo ≤ g i ∧ g i < hi ∧ w.cell? ⟨b, off + i * 3, none⟩ = some (.int .i64 (P i)) ∧ w.cell? ⟨b, off + i * 3 + 1, none⟩ = some (.int .i64 (T i)) ∧
      w.cell? ⟨b, off + i * 3 + 2, none⟩ = some (.slice (some ⟨g i, o i, none⟩) (L i) (c i)) ∧ w.frozen? ⟨b, off + i * 3, none⟩ = false ∧ w.frozen? ⟨b, off + i * 3 + 1, none⟩ = false ∧ Row1 w (g i) (o i) (L i) (Z i) ∧ L i ≤ c i)
theorem Row1.at {w : World} {b off n : Nat} {z : Nat → Int} (h : Row1 w b off n z) (hb : b < w.heap.size) : BytesAt w (some ⟨b, off, none⟩) n z := .inr ⟨b, off, rfl, hb, h.1⟩
theorem Row1.block {w w' : World} {b off n : Nat} {z : Nat → Int} (h : Row1 w b off n z) (e : w'.heap[b]? = w.heap[b]?) : Row1 w' b off n z :=
  ⟨fun i hi => (World.cell?_of_block (w := w) (a := ⟨b, _, none⟩) e).trans (h.1 i hi), fun i hi => (World.frozen?_of_block (w := w) (a := ⟨b, _, none⟩) e).trans (h.2 i hi)⟩
theorem Row1.of_row {w : World} {b n : Nat} {z : Nat → Int} (h : w.rowIs b 5 n (fun i => .int .u8 (z i))) : Row1 w b 0 n z :=
  ⟨fun i hi => by rw [Nat.zero_add]; exact h.cell hi, fun i hi => h.frozen _⟩
theorem OwnP.at {w : World} {lo hi : Nat} {a : Option Addr} {n : Nat} {L : Nat → Nat} {Z : Nat → Nat → Int} (h : OwnP w lo hi a n L Z) : PagesAt w a n L Z := by
  obtain ⟨h0, h1 | ⟨b, off, ha, _, hl, g, o, c, _, hc⟩⟩ := h
  · exact .inl h1
  · refine .inr ⟨b, off, ha, by omega, fun i hi => ?_⟩
    obtain ⟨_, _, hg, h2, h3, h4⟩ := hc i hi
    exact ⟨_, _, h2, h3.at (by omega), h4⟩
theorem OwnL.at {w : World} {lo hi : Nat} {a : Option Addr} {n : Nat} {P T : Nat → Int} {L : Nat → Nat} {Z : Nat → Nat → Int} (h : OwnL w lo hi a n P T L Z) : LoosesAt w a n P T L Z := by
  obtain ⟨h0, h1 | ⟨b, off, ha, _, hl, g, o, c, _, hc⟩⟩ := h
  · exact .inl h1
  · refine .inr ⟨b, off, ha, by omega, fun i hi => ?_⟩
    obtain ⟨_, _, hg, h2, h3, h4, _, _, h5, h6⟩ := hc i hi
    exact ⟨h2, h3, _, _, h4, h5.at (by omega), h6⟩
theorem OwnP.writes {w w' : World} {lo hi lo' hi' : Nat} {a : Option Addr} {n : Nat} {L : Nat → Nat} {Z : Nat → Nat → Int} (h : OwnP w lo hi a n L Z) (hw : Writes lo' hi' w w') (hd : hi ≤ lo' ∨ hi' ≤ lo) : OwnP w' lo hi a n L Z := by
  obtain ⟨h0, h1 | ⟨b, off, ha, hlo, hl, g, o, c, hj, hc⟩⟩ := h
  · exact ⟨Nat.le_trans h0 hw.size, .inl h1⟩
  · refine ⟨Nat.le_trans h0 hw.size, .inr ⟨b, off, ha, hlo, hl, g, o, c, hj, fun i hi => ?_⟩⟩
    obtain ⟨k0, k1, k2, k3, k4, k5⟩ := hc i hi
    exact ⟨k0, k1, k2, (hw.cell (by omega) (by omega) _).trans k3, k4.block (hw.block _ (by omega) (by omega)), k5⟩
theorem OwnL.writes {w w' : World} {lo hi lo' hi' : Nat} {a : Option Addr} {n : Nat} {P T : Nat → Int} {L : Nat → Nat} {Z : Nat → Nat → Int} (h : OwnL w lo hi a n P T L Z) (hw : Writes lo' hi' w w') (hd : hi ≤ lo' ∨ hi' ≤ lo) : OwnL w' lo hi a n P T L Z := by
  obtain ⟨h0, h1 | ⟨b, off, ha, hlo, hl, g, o, c, hj, hc⟩⟩ := h
  · exact ⟨Nat.le_trans h0 hw.size, .inl h1⟩
  · refine ⟨Nat.le_trans h0 hw.size, .inr ⟨b, off, ha, hlo, hl, g, o, c, hj, fun i hi => ?_⟩⟩
    obtain ⟨k0, k1, k2, k3, k4, k5, k6, k7, k8, k9⟩ := hc i hi
    have e := hw.block b (by omega) (by omega)
    exact ⟨k0, k1, k2, (hw.cell (by omega) (by omega) _).trans k3, (hw.cell (by omega) (by omega) _).trans k4, (hw.cell (by omega) (by omega) _).trans k5, (World.frozen?_of_block (w := w) (a := ⟨b, _, none⟩) e).trans k6, (World.frozen?_of_block (w := w) (a := ⟨b, _, none⟩) e).trans k7, k8.block (hw.block _ (by omega) (by omega)), k9⟩
theorem OwnP.wide {w : World} {lo hi lo' hi' : Nat} {a : Option Addr} {n : Nat} {L : Nat → Nat} {Z : Nat → Nat → Int} (h : OwnP w lo hi a n L Z) (h1 : lo' ≤ lo) (h2 : hi ≤ hi') (h3 : hi' ≤ w.heap.size) : OwnP w lo' hi' a n L Z := by
  obtain ⟨h0, h4 | ⟨b, off, ha, hlo, hl, g, o, c, hj, hc⟩⟩ := h
  · exact ⟨h3, .inl h4⟩
  · refine ⟨h3, .inr ⟨b, off, ha, by omega, by omega, g, o, c, hj, fun i hi => ?_⟩⟩
    obtain ⟨k0, k1, k2, r⟩ := hc i hi
    exact ⟨k0, by omega, by omega, r⟩
theorem OwnL.wide {w : World} {lo hi lo' hi' : Nat} {a : Option Addr} {n : Nat} {P T : Nat → Int} {L : Nat → Nat} {Z : Nat → Nat → Int} (h : OwnL w lo hi a n P T L Z) (h1 : lo' ≤ lo) (h2 : hi ≤ hi') (h3 : hi' ≤ w.heap.size) : OwnL w lo' hi' a n P T L Z := by
  obtain ⟨h0, h4 | ⟨b, off, ha, hlo, hl, g, o, c, hj, hc⟩⟩ := h
  · exact ⟨h3, .inl h4⟩
  · refine ⟨h3, .inr ⟨b, off, ha, by omega, by omega, g, o, c, hj, fun i hi => ?_⟩⟩
    obtain ⟨k0, k1, k2, r⟩ := hc i hi
    exact ⟨k0, by omega, by omega, r⟩
theorem OwnP.below {w w' : World} {lo hi : Nat} {a : Option Addr} {n : Nat} {L : Nat → Nat} {Z : Nat → Nat → Int} (h : OwnP w lo hi a n L Z) (hb : Below w.heap.size w w') : OwnP w' lo hi a n L Z :=
  h.writes (Writes.of_below (lo := hi) (hi := hi) hb) (.inl (Nat.le_refl _))
theorem OwnL.below {w w' : World} {lo hi : Nat} {a : Option Addr} {n : Nat} {P T : Nat → Int} {L : Nat → Nat} {Z : Nat → Nat → Int} (h : OwnL w lo hi a n P T L Z) (hb : Below w.heap.size w w') : OwnL w' lo hi a n P T L Z :=
  h.writes (Writes.of_below (lo := hi) (hi := hi) hb) (.inl (Nat.le_refl _))

/-! ### laws.toByteSS -/
theorem info22 : (Tryz.prog.info? 27).map (fun i => (i.zero, i.size, i.bytes)) = some (some (.slice none 0 0), 1, 24) := by kernel_rfl
/-- k of n pages are copied. -/
def TP (w wr : World) (k n : Nat) (L : Nat → Nat) (Z : Nat → Nat → Int) : Prop :=
  ∃ g : Nat → Nat, (∀ i j, i < k → j < k → g i = g j → i = j) ∧ (∀ i, i < k → w.heap.size < g i ∧ g i < wr.heap.size ∧ wr.rowIs (g i) 5 (L i) (fun j => .int .u8 (Z i j))) ∧
    wr.rowIs w.heap.size 27 n (fun i => if i < k then .slice (some ⟨g i, 0, none⟩) (L i) (L i) else .slice none 0 0)
theorem TP.step {w wr w1 : World} {k n : Nat} {L : Nat → Nat} {Z : Nat → Nat → Int} (h : TP w wr k n L Z) (hb : Below wr.heap.size wr w1) (hr : w1.rowIs wr.heap.size 5 (L k) (fun j => .int .u8 (Z k j))) :
    TP w (w1.setCell ⟨w.heap.size, k, none⟩ (.slice (some ⟨wr.heap.size, 0, none⟩) (L k) (L k))) (k + 1) n L Z := by
  obtain ⟨g, hj, hg, hrow⟩ := h
  have hw := hrow.lt
  have hs1 := hr.lt
  refine ⟨fun i => if i < k then g i else wr.heap.size, fun i j hi hj' e => ?_, fun i hi => ?_, ?_⟩
  · by_cases c1 : i < k <;> by_cases c2 : j < k <;> simp only [c1, c2, if_true, if_false] at e
    · exact hj i j c1 c2 e
    · have := hg i c1; omega
    · have := hg j c2; omega
    · omega
  · by_cases c1 : i < k
    · simp only [c1, if_true]
      obtain ⟨g0, g1, g2⟩ := hg i c1
      refine ⟨g0, by simp [World.setCell]; omega, World.rowIs.setOther (g2.of_block (hb.block _ g1)) (by show g i ≠ w.heap.size; omega) _⟩
    · have : i = k := by omega
      subst this
      simp only [Nat.lt_irrefl, if_false]
      exact ⟨hw, by simp [World.setCell]; omega, hr.setOther (by show wr.heap.size ≠ w.heap.size; omega) _⟩
  · refine ((hrow.of_block (hb.block _ hw)).set k _).congr fun i _ => ?_
    by_cases e : i = k
    · subst e; simp
    · by_cases c1 : i < k
      · have : i < k + 1 := by omega
        simp [e, c1, this]
      · have : ¬ i < k + 1 := by omega
        simp [e, c1, this]
theorem TP.own {w wr : World} {n : Nat} {L : Nat → Nat} {Z : Nat → Nat → Int} (h : TP w wr n n L Z) : OwnP wr w.heap.size wr.heap.size (some ⟨w.heap.size, 0, none⟩) n L Z := by
  obtain ⟨g, hj, hg, hrow⟩ := h
  refine ⟨Nat.le_refl _, .inr ⟨_, _, rfl, Nat.le_refl _, hrow.lt, g, fun _ => 0, L, hj, fun i hi => ?_⟩⟩
  obtain ⟨g0, g1, g2⟩ := hg i hi
  refine ⟨by omega, by omega, g1, ?_, Row1.of_row g2, Nat.le_refl _⟩
  rw [Nat.zero_add, hrow.cell hi]
  simp [hi]
set_option maxHeartbeats 400000 in
theorem toByteSS_any (n : Nat) (L : Nat → Nat) (Z : Nat → Nat → Int) (a : Option Addr) (cap : Nat) (w : World) (hn : n ≤ 1048576) (hL : ∀ i, i < n → L i ≤ 1048576) (h : PagesAt w a n L Z) :
    Calls Tryz.prog 92 #[.slice a n cap] w fun e w' =>
      e = .returned (.slice (some ⟨w.heap.size, 0, none⟩) n n) ∧ Below w.heap.size w w' ∧ OwnP w' w.heap.size w'.heap.size (some ⟨w.heap.size, 0, none⟩) n L Z := by
  have hmk := run_make_row' (P := Tryz.prog) 23 27 (.slice none 0 0) 24 Tryz.underlying23 info22 rfl .i64 .i64 n (by omega) (by omega)
  have HL : Hid (∀ i, i < n → L i ≤ 1048576) := hL
  have HA : Hid (PagesAt w a n L Z) := h
  clear hL h
  go_enter Tryz.func92, Tryz.ntmps92
  go_wp2
  go_loopw [4] (fun i wr => ∃ k : Nat, k ≤ n ∧ i = .int .i64 k ∧ Below w.heap.size w wr ∧ TP w wr k n L Z) (fun i _ => n - (intOf i).toNat)
  case atStart => exact ⟨0, Nat.zero_le _, rfl, (Below.refl _ _).alloc (Nat.le_refl _) _, fun _ => 0, fun i j h => by omega, fun i h => by omega, (World.rowIs_made w _ n 27).congr (fun i _ => by simp)⟩
  case round =>
    obtain ⟨k, hk, rfl, hb, hT⟩ := hrel
    by_cases hlt : k < n
    · rcases HA.out.below hb with h | ⟨b, off, rfl, hl, hc⟩
      · omega
      obtain ⟨ai, ci, hcell, hby, -⟩ := hc k hlt
      have HY : Hid (BytesAt wr ai (L k) (Z k)) := hby
      have HT : Hid (TP w wr k n L Z) := hT
      obtain ⟨g, -, -, hrow⟩ := hT
      have hsz := hrow.lt
      obtain ⟨v3, hv3⟩ : ∃ v, wr.cell? ⟨w.heap.size, k, none⟩ = some v := ⟨_, hrow.cell hlt⟩
      have hfz := hrow.frozen k
      have HB : Hid (Below w.heap.size w wr) := hb
      clear hc hb hrow hmk hby
      go_wp2_with fail
      refine (toByteS_any (L k) (Z k) ai ci wr (by have := HL.out k hlt; omega) HY.out).mono ?_
      rintro e w1 ⟨rfl, hb1, hr1⟩
      have g3 : w1.cell? ⟨w.heap.size, k, none⟩ = some v3 := (hb1.cell (p := ⟨_, _, none⟩) hsz).trans hv3
      have f3 : w1.frozen? ⟨w.heap.size, k, none⟩ = false := (hb1.frozen (p := ⟨_, _, none⟩) hsz).trans hfz
      have HB1 : Hid (Below wr.heap.size wr w1) := hb1
      have HR1 : Hid (w1.rowIs wr.heap.size 5 (L k) (fun j => .int .u8 (Z k j))) := hr1
      clear hb1 hr1 hv3 hfz
      go_wp2_with fail
      go_roundw
      case rel => exact ⟨k + 1, hlt, by go_num, (below_then HB.out HB1.out).setCell (Nat.le_refl _) _, HT.out.step HB1.out HR1.out⟩
      case measure => simp [intOf]; omega
    · have hkn : k = n := by omega
      have HT : Hid (TP w wr n n L Z) := by have h := hT; rw [hkn] at h; exact h
      clear hmk hT
      go_wp2
      go_ret
      exact ⟨rfl, hb, HT.out.own⟩
end Go.Proofs.YtaokclhcmgbgnaaGreat
