/- spec.l1Pack: the walk. -/
import Derived.Test.YtnhkjdcbaphfcaaPk
namespace Go.Proofs.Ytnhkjdcbaphfcaa
open Go.RowKit Go.Deep
set_option linter.unusedVariables false
set_option maxRecDepth 20000

theorem step_appB {ops : Array Oper} {o : Oper} {a : Act} {K : Act → World → Prop} {Q : Exit → Act → World → Prop} {E : Prop} (w : World) (hgd : o.guard = none) (s x : Operand)
    (ho : o.op = .call { callee := .builtin .append, args := #[s, x], argTypes := #[22, 22] })
    (base : Nat) (v : Value) (n : Nat) (xs : List Value) (hs : a.eval s = v) (hown : w.ownsRow base 5 1 v n xs)
    (ad : Addr) (m c : Nat) (news : List Value) (hx : a.eval x = .slice (some ad) m c) (hl : news.length = m) (hnews : ∀ j u, news[j]? = some u → w.cell? (ad.add j) = some u) (h1 : ∀ u ∈ news, u.oneCell' = true)
    (h63 : n + m ≤ 100000) (hbase : base ≤ w.heap.size)
    (h : ∀ v' w', w'.ownsRow base 5 1 v' (n + m) (xs ++ news) → w.grownBy w' v.ownBlock → K (a.put o.dst v') w') :
    if Region.wanted o (yielded ops a.tmps) = true then Oper.wp Try.prog o a w K Q else E := by
  have hw : Region.wanted o (yielded ops a.tmps) = true := by simp [Region.wanted, hgd]
  rw [if_pos hw]
  obtain ⟨i0, hi, hz0, hz1, hz2⟩ := info_parts info5
  exact wp_append_own w s x 22 ho base 5 i0 _ 1 1 Try.underlying22 hi hz0 hz1 hz2 rfl (by decide) v n xs hs hown ad m c news hx (by omega) hnews h1 (by unfold maxLen; omega) (by omega) hbase fun v' w' h2 h3 _ => h v' w' h2 h3
theorem formB {w : World} {base n : Nat} {v : Value} {xs : List Value} (h : w.ownsRow base 5 1 v n xs) (hne : v ≠ .slice none 0 0) : ∃ g cap, v = .slice (some ⟨g, 0, none⟩) n cap ∧ base ≤ g ∧ g < w.heap.size := by
  rcases h.2 with ⟨rfl, h0⟩ | ⟨g, cap, cur, rfl, hb, hg, _⟩
  · exact absurd rfl hne
  · exact ⟨g, cap, rfl, hb, by obtain ⟨hlt, _⟩ := Array.getElem?_eq_some_iff.1 hg; exact hlt⟩
theorem keepB {w W : World} {o o2 : Obj} (h : Below (w.heap.size + 1) (w.alloc o) W.drew) : Below (w.heap.size + 1) (w.alloc o) (W.alloc o2).drew :=
  (Below.alloc (w := W) ⟨h.os, h.tape, h.output, h.size, h.block⟩ (by have := h.size; rw [World.size_alloc] at this; exact this) o2).drew
theorem keepB' {w W : World} {o o2 : Obj} (h : Below (w.heap.size + 1) (w.alloc o) W) : Below (w.heap.size + 1) (w.alloc o) (W.alloc o2) :=
  h.alloc (by have := h.size; rw [World.size_alloc] at this; exact this) o2
theorem hszB {w W : World} {o : Obj} (h : Below (w.heap.size + 1) (w.alloc o) W) : w.heap.size + 1 ≤ W.heap.size := by have := h.size; rw [World.size_alloc] at this; exact this
theorem belB {w W wq : World} {o : Obj} (h : Below (w.heap.size + 1) (w.alloc o) W) (hq : Below W.heap.size W wq) : Below (w.heap.size + 1) (w.alloc o) wq := h.trans (hq.mono (hszB h))
theorem grB {w W wa : World} {o : Obj} {v : Value} {n : Nat} {xs : List Value} (h : Below (w.heap.size + 1) (w.alloc o) W) (ho : W.ownsRow (w.heap.size + 1) 5 1 v n xs) (hg : W.grownBy wa v.ownBlock) : Below (w.heap.size + 1) (w.alloc o) wa :=
  h.grown hg (hszB h) fun q hq => (ho.lt q hq).1
theorem rowB_below {W wq : World} {B n : Nat} {v : Value} {xs : List Value} (h : W.ownsRow B 5 1 v n xs) (hb : Below W.heap.size W wq) : wq.ownsRow B 5 1 v n xs := by
  refine ⟨h.1, ?_⟩
  rcases h.2 with h2 | ⟨g, cap, cur, hv, hbg, hg, r⟩
  · exact .inl h2
  · have hlt : g < W.heap.size := by obtain ⟨hlt, _⟩ := Array.getElem?_eq_some_iff.1 hg; exact hlt
    exact .inr ⟨g, cap, cur, hv, hbg, (hb.block g hlt).trans hg, r⟩
theorem own8a (w : World) (o : Obj) (x : Value) : ((w.alloc o).alloc (.cells #[x] 5)).drew.ownsRow (w.heap.size + 1) 5 1 (.slice (some ⟨w.heap.size + 1, 0, none⟩) 1 1) 1 [x] := by
  have h := World.ownsRow_lit (base := w.heap.size + 1) (size := 1) (e := 5) (w.alloc o) #[x] 1 (by simp) (by unfold maxLen; omega) rfl
  rw [World.size_alloc] at h
  exact h
theorem own8b {B : Nat} {w : World} {x : Value} (hB : B ≤ w.heap.size) : (w.alloc (.cells #[x] 5)).ownsRow B 5 1 (.slice (some ⟨w.heap.size, 0, none⟩) 1 1) 1 [x] := World.ownsRow_lit w #[x] 1 hB (by unfold maxLen; omega) rfl
theorem newsB {W : World} {B n g cap : Nat} {xs : List Value} (h : W.ownsRow B 5 1 (.slice (some ⟨g, 0, none⟩) n cap) n xs) : ∀ j u, xs[j]? = some u → W.cell? ((⟨g, 0, none⟩ : Addr).add j) = some u := h.cells rfl
theorem newsB_alloc {W : World} {B n g cap : Nat} {xs : List Value} {o : Obj} (h : W.ownsRow B 5 1 (.slice (some ⟨g, 0, none⟩) n cap) n xs) : ∀ j u, xs[j]? = some u → (W.alloc o).cell? ((⟨g, 0, none⟩ : Addr).add j) = some u := (h.alloc o).cells rfl
theorem cellsq2 {w W wq : World} {o : Obj} {B i j : Nat} {x y : Value} (h : Below (w.heap.size + 1) (w.alloc o) W ∧ W.cell? ⟨B, i, none⟩ = some x ∧ W.cell? ⟨B, j, none⟩ = some y) (hq : Below W.heap.size W wq) :
    Below (w.heap.size + 1) (w.alloc o) wq ∧ wq.cell? ⟨B, i, none⟩ = some x ∧ wq.cell? ⟨B, j, none⟩ = some y := ⟨belB h.1 hq, cell_below h.2.1 hq, cell_below h.2.2 hq⟩
theorem cellsg {w W wa : World} {o : Obj} {i j : Nat} {x y v : Value} {n : Nat} {xs : List Value} (h : Below (w.heap.size + 1) (w.alloc o) W ∧ W.cell? ⟨w.heap.size, i, none⟩ = some x ∧ W.cell? ⟨w.heap.size, j, none⟩ = some y) (ho : W.ownsRow (w.heap.size + 1) 5 1 v n xs) (hg : W.grownBy wa v.ownBlock) :
    Below (w.heap.size + 1) (w.alloc o) wa ∧ wa.cell? ⟨w.heap.size, i, none⟩ = some x ∧ wa.cell? ⟨w.heap.size, j, none⟩ = some y := by
  have hb := hg.block w.heap.size (by have := hszB h.1; omega) (fun e => by have := (ho.lt _ e.symm).1; omega)
  exact ⟨grB h.1 ho hg, (World.cell?_of_block (w := W) (a := ⟨w.heap.size, i, none⟩) hb).trans h.2.1, (World.cell?_of_block (w := W) (a := ⟨w.heap.size, j, none⟩) hb).trans h.2.2⟩
theorem rowB_down {w : World} {B B' : Nat} {v : Value} {n : Nat} {xs : List Value} (h : w.ownsRow B 5 1 v n xs) (hb : B' ≤ B) : w.ownsRow B' 5 1 v n xs := by
  refine ⟨h.1, ?_⟩
  rcases h.2 with h2 | ⟨g, cap, cur, hv, hg, r⟩
  · exact .inl h2
  · exact .inr ⟨g, cap, cur, hv, by omega, r⟩
theorem cellsq3 {w W wq : World} {o : Obj} {A B C i j l : Nat} {x y z : Value} (h : Below (w.heap.size + 1) (w.alloc o) W ∧ W.cell? ⟨A, i, none⟩ = some x ∧ W.cell? ⟨B, j, none⟩ = some y ∧ W.cell? ⟨C, l, none⟩ = some z) (hq : Below W.heap.size W wq) :
    Below (w.heap.size + 1) (w.alloc o) wq ∧ wq.cell? ⟨A, i, none⟩ = some x ∧ wq.cell? ⟨B, j, none⟩ = some y ∧ wq.cell? ⟨C, l, none⟩ = some z := ⟨belB h.1 hq, cell_below h.2.1 hq, cell_below h.2.2.1 hq, cell_below h.2.2.2 hq⟩
theorem cellsg3 {w W wa : World} {o : Obj} {b i j l : Nat} {x y z v : Value} {n : Nat} {xs : List Value} (hbb : b < w.heap.size) (h : Below (w.heap.size + 1) (w.alloc o) W ∧ W.cell? ⟨w.heap.size, i, none⟩ = some x ∧ W.cell? ⟨b, j, none⟩ = some y ∧ W.cell? ⟨b, l, none⟩ = some z) (ho : W.ownsRow (w.heap.size + 1) 5 1 v n xs) (hg : W.grownBy wa v.ownBlock) :
    Below (w.heap.size + 1) (w.alloc o) wa ∧ wa.cell? ⟨w.heap.size, i, none⟩ = some x ∧ wa.cell? ⟨b, j, none⟩ = some y ∧ wa.cell? ⟨b, l, none⟩ = some z := by
  have hb := hg.block w.heap.size (by have := hszB h.1; omega) (fun e => by have := (ho.lt _ e.symm).1; omega)
  have hc := hg.block b (by have := hszB h.1; omega) (fun e => by have := (ho.lt _ e.symm).1; omega)
  exact ⟨grB h.1 ho hg, (World.cell?_of_block (w := W) (a := ⟨w.heap.size, i, none⟩) hb).trans h.2.1, (World.cell?_of_block (w := W) (a := ⟨b, j, none⟩) hc).trans h.2.2.1, (World.cell?_of_block (w := W) (a := ⟨b, l, none⟩) hc).trans h.2.2.2⟩
theorem newsOne {wr wq : World} {x : Value} (hbq : Below (wr.alloc (.cells #[x] 5)).drew.heap.size (wr.alloc (.cells #[x] 5)).drew wq) : ∀ j u, [x][j]? = some u → wq.cell? ((⟨wr.heap.size, 0, none⟩ : Addr).add j) = some u := by
  intro j u hj
  have h := cell_one_new wr x 5 j u hj
  rw [WideShapes.add_plain] at h ⊢
  exact cell_below (w := (wr.alloc (.cells #[x] 5)).drew) h hbq
/-- The bytes of the call's answer are still there behind an append to an earlier row. -/
theorem keptQ {wr W wa : World} {B Bq n nq gq cq : Nat} {v : Value} {xs ys : List Value} (ho : wr.ownsRow B 5 1 v n xs) (hq : W.ownsRow Bq 5 1 (.slice (some ⟨gq, 0, none⟩) nq cq) nq ys) (hgq : Bq ≤ gq) (hB : wr.heap.size ≤ Bq) (hg : W.grownBy wa v.ownBlock) : wa.ownsRow Bq 5 1 (.slice (some ⟨gq, 0, none⟩) nq cq) nq ys := by
  refine hq.kept hg (.inr fun e => ?_)
  have := (ho.lt gq (by rw [← e]; rfl)).2
  omega
theorem nb_bl4 (x : Int) : (bl (nb x 4)).length = 4 := by rw [bl_len, nb_len]
theorem nb_bl2 (x : Int) : (bl (nb x 2)).length = 2 := by rw [bl_len, nb_len]
theorem byt_small {x : Int} (h0 : 0 ≤ x) (h1 : x ≤ 255) : nb x 1 = [x] := by simp only [nb, byt]; congr 1; simp; omega

set_option maxHeartbeats 4000000 in
theorem specPk_any (idn lsn : Int) (n : Nat) (K V : Nat → Int) (pa : Option Addr) (pcap : Nat) (w : World) (g : GoodP idn lsn n K V) (h : CellsAt w pa n K V) :
    Calls Try.prog 38 #[.agg #[.int .i64 idn, .int .i64 lsn, (.slice pa n pcap)]] w fun e w' => ∃ v, e = .returned v ∧ Below w.heap.size w w' ∧ w'.ownsRow w.heap.size 5 1 v (pgb idn lsn n K V).length (bl (pgb idn lsn n K V)) := by
  have HG : Hid (GoodP idn lsn n K V) := g
  obtain ⟨hi1a, hi1b⟩ := inB_iff.1 g.gid
  obtain ⟨hi2a, hi2b⟩ := inB_iff.1 g.glsn
  have hn12 := g.gn
  have hb0 : Below (w.heap.size + 1) (w.alloc (.cells #[.int .i64 idn, .int .i64 lsn, (.slice pa n pcap)] 27)) (w.alloc (.cells #[.int .i64 idn, .int .i64 lsn, (.slice pa n pcap)] 27)).drew := (Below.refl _ _).drew
  have hw8 : IntKind.u8.wrap idn = idn := by rw [IntKind.wrap_u8]; omega
  have HA : Hid (CellsAt w pa n K V) := h
  obtain ⟨i0, hi, hz0, hz1, hz2⟩ := info_parts info5
  have HI : Hid (Try.prog.info? 5 = some i0 ∧ i0.zero = some (.int .u8 0) ∧ i0.size = 1 ∧ i0.bytes = 1) := ⟨hi, hz0, hz1, hz2⟩
  clear hi hz0 hz1 hz2 g h
  go_enter Try.func38, Try.ntmps38
  go_wp2
  have hold0 : Below (w.heap.size + 1) (w.alloc (.cells #[.int .i64 idn, .int .i64 lsn, (.slice pa n pcap)] 27)) (w.alloc (.cells #[.int .i64 idn, .int .i64 lsn, (.slice pa n pcap)] 27)).drew ∧ (w.alloc (.cells #[.int .i64 idn, .int .i64 lsn, (.slice pa n pcap)] 27)).drew.cell? ⟨w.heap.size, 0, none⟩ = some (.int .i64 idn) ∧ (w.alloc (.cells #[.int .i64 idn, .int .i64 lsn, (.slice pa n pcap)] 27)).drew.cell? ⟨w.heap.size, 1, none⟩ = some (.int .i64 lsn) := ⟨hb0, by simp, by simp⟩
  go_region_held3 (fun w' => Below (w.heap.size + 1) (w.alloc (.cells #[.int .i64 idn, .int .i64 lsn, (.slice pa n pcap)] 27)) w' ∧ w'.cell? ⟨w.heap.size, 0, none⟩ = some (.int .i64 idn) ∧ w'.cell? ⟨w.heap.size, 1, none⟩ = some (.int .i64 lsn)) (first | assumption | (obtain ⟨hKa, hKb, hKc⟩ := ‹Below (w.heap.size + 1) _ _ ∧ _ ∧ _›; exact ⟨by first | exact keepB hKa | exact keepB' hKa, by go_keep, by go_keep⟩))
    (first | (go_at_call 67; refine (l1Bytes_any lsn 4 _ (by decide) hi2a hi2b).mono ?_; rintro e wq ⟨vq, rfl, hbq, hoq, hneq⟩; obtain ⟨gq, cq, rfl, hgq⟩ := formB hoq hneq; have HX := (‹Below (w.heap.size + 1) _ _ ∧ _ ∧ _›); have hC := cellsq2 HX hbq; clear HX) | (have HX := (‹Below (w.heap.size + 1) _ _ ∧ _ ∧ _›); refine step_appB _ rfl (.tmp 8) (.tmp 11) rfl (w.heap.size + 1) _ 1 [(.int .u8 idn)] rfl (rowB_below (own8a w _ _) hbq) ⟨gq, 0, none⟩ 4 cq (bl (nb lsn 4)) rfl (nb_bl4 _) (newsB hoq) (bl_one _) (by decide) (hszB HX.1) ?_; intro v12 w12 ho12 hg12; have hS12 := grB HX.1 (rowB_below (own8a w _ _) hbq) hg12; have hD12 := cellsg HX (rowB_below (own8a w _ _) hbq) hg12) | (have HX := (‹Below (w.heap.size + 1) _ _ ∧ _ ∧ _›); refine step_appB _ rfl (.tmp 8) (.tmp 11) rfl (w.heap.size + 1) _ 1 [(.int .u8 idn)] rfl (own8b (hszB hC.1)) ⟨gq, 0, none⟩ 4 cq (bl (nb lsn 4)) rfl (nb_bl4 _) (newsB_alloc hoq) (bl_one _) (by decide) (hszB HX.1) ?_; intro v12 w12 ho12 hg12; have hS12 := grB HX.1 (own8b (hszB hC.1)) hg12; have hD12 := cellsg HX (own8b (hszB hC.1)) hg12))
  all_goals
    have PS12 : Hid (Below (w.heap.size + 1) (w.alloc (.cells #[.int .i64 idn, .int .i64 lsn, (.slice pa n pcap)] 27)) w12 ∧ w12.ownsRow (w.heap.size + 1) 5 1 v12 (nb idn 1 ++ nb lsn 4).length (bl (nb idn 1 ++ nb lsn 4))) := by
      refine ⟨hD12.1, ?_⟩
      rw [byt_small hi1a (by omega), List.length_append, nb_len, bl_app]
      exact ho12
    have k2 : w12.cell? ⟨w.heap.size, 2, none⟩ = some (.slice pa n pcap) := by rw [PS12.out.1.cell (p := ⟨w.heap.size, 2, none⟩) (by simp)]; simp
    have m2 := fun o : Obj => cell_alloc k2 o
    have hwn : IntKind.u8.wrap (n : Int) = (n : Int) := by rw [IntKind.wrap_u8]; omega
    have HSZ : Hid ((w.heap.size + 1) ≤ w12.heap.size) := hszB PS12.out.1
    have HLN : Hid ((nb idn 1 ++ nb lsn 4).length = 5) := by show (nb idn 1 ++ nb lsn 4).length = 5; simp [nb_len]
    clear ho12 hg12 hS12 hD12
    go_wp2_with (at_builtin; refine wpList_append_own _ rfl (.tmp 13) (.tmp 18) 22 rfl (w.heap.size + 1) 5 i0 (.int .u8 0) 1 1 Try.underlying22 HI.out.1 HI.out.2.1 HI.out.2.2.1 HI.out.2.2.2 rfl (by decide) _ _ _ rfl (PS12.out.2.alloc _) ⟨w12.heap.size, 0, none⟩ 1 1 [.int .u8 (n : Int)] rfl rfl (cell_one_new _ _ _) (one_u8 _) ?c3 ?c4 ?c5 ?_)
    case c3 => rw [HLN.out]; unfold maxLen; omega
    case c4 => rw [HLN.out]; omega
    case c5 => have := HSZ.out; simp; omega
    intro v19 w19 ho19 hg19 _
    have HR19 := app_byte PS12.out.1 HSZ.out PS12.out.2 ho19 hg19
    have PS19 : Hid (Below (w.heap.size + 1) (w.alloc (.cells #[.int .i64 idn, .int .i64 lsn, (.slice pa n pcap)] 27)) w19 ∧ w19.ownsRow (w.heap.size + 1) 5 1 v19 (hd idn lsn n ++ cb K V 0).length (bl (hd idn lsn n ++ cb K V 0))) := by
      refine ⟨HR19.2, ?_⟩
      rw [cb, List.append_nil, hd, byt_small (x := (n : Int)) (by omega) (by omega)]
      exact HR19.1
    clear ho19 hg19 HR19 PS12 HSZ HLN k2 m2
    obtain ⟨a19, cap19, rfl, -⟩ := slice_of_own PS19.out.2
    go_wp2
    go_loopw [3, 4] (fun v i wr => ∃ k a cap, k ≤ n ∧ i = .int .i64 (k : Nat) ∧ v = .slice a (hd idn lsn n ++ cb K V k).length cap ∧ Hid (Below (w.heap.size + 1) (w.alloc (.cells #[.int .i64 idn, .int .i64 lsn, (.slice pa n pcap)] 27)) wr ∧ wr.ownsRow (w.heap.size + 1) 5 1 (.slice a (hd idn lsn n ++ cb K V k).length cap) (hd idn lsn n ++ cb K V k).length (bl (hd idn lsn n ++ cb K V k)))) (fun _ i _ => n - (intOf i).toNat)
    case atStart => exact ⟨0, a19, cap19, Nat.zero_le _, rfl, rfl, PS19⟩
    case round =>
      clear PS19
      obtain ⟨k, a, cap, hk0, rfl, rfl, PSr⟩ := hrel
      have k2 : wr.cell? ⟨w.heap.size, 2, none⟩ = some (.slice pa n pcap) := by rw [PSr.out.1.cell (p := ⟨w.heap.size, 2, none⟩) (by simp)]; simp
      by_cases hlt : k < n
      · rcases HA.out with h | ⟨b, off, rfl, hbl, hck, hcv⟩
        · omega
        have HBB : Hid (b < w.heap.size) := hbl
        have h1 : wr.cell? ⟨b, off + k * 2, none⟩ = some (.int .i64 (K k)) := by
          rw [PSr.out.1.cell (p := ⟨b, off + k * 2, none⟩) (by have := HBB.out; show b < (w.heap.size + 1); omega)]
          exact cell_alloc (hck k hlt) _
        have h2 : wr.cell? ⟨b, off + k * 2 + 1, none⟩ = some (.int .i64 (V k)) := by
          rw [PSr.out.1.cell (p := ⟨b, off + k * 2 + 1, none⟩) (by have := HBB.out; show b < (w.heap.size + 1); omega)]
          exact cell_alloc (hcv k hlt) _
        clear hck hcv hbl
        have hlt' : (k : Int) < (n : Int) := by omega
        have hkb := HG.out.gkey k hlt
        have hwk : IntKind.u8.wrap (K k) = K k := by rw [IntKind.wrap_u8]; omega
        have HKB : Hid (0 ≤ K k ∧ K k ≤ 255) := ⟨hkb.1, by omega⟩
        have HVB : Hid (0 ≤ V k ∧ V k ≤ 1000000) := by have := HG.out.gval k hlt; exact ⟨this.1, by omega⟩
        have HZL : Hid ((hd idn lsn n ++ cb K V k).length ≤ 1000) := by show (hd idn lsn n ++ cb K V k).length ≤ 1000; rw [List.length_append, hd_len, cb_len]; omega
        have HCB : Hid (hd idn lsn n ++ cb K V (k + 1) = hd idn lsn n ++ cb K V k ++ [K k] ++ nb (V k) 2) := by
          show hd idn lsn n ++ cb K V (k + 1) = _
          rw [cb, byt_small HKB.out.1 HKB.out.2]; simp [List.append_assoc]
        clear hkb
        generalize hd idn lsn n ++ cb K V k = Z at *
        have HO : Hid (wr.ownsRow (w.heap.size + 1) 5 1 (.slice a Z.length cap) Z.length (bl Z)) := PSr.out.2
        have HL1 : Hid (Z.length + 1 ≤ 100000) := by have := HZL.out; show Z.length + 1 ≤ 100000; omega
        have HL2 : Hid (Z.length + 1 + 2 ≤ 100000) := by have := HZL.out; show Z.length + 1 + 2 ≤ 100000; omega
        have HQ1 : Hid (wr.heap.size ≤ (wr.alloc (.cells #[.int .u8 (K k)] 5)).drew.heap.size) := by show wr.heap.size ≤ (wr.alloc (.cells #[.int .u8 (K k)] 5)).heap.size; rw [World.size_alloc]; omega
        have hold1 : Below (w.heap.size + 1) (w.alloc (.cells #[.int .i64 idn, .int .i64 lsn, (.slice (some ⟨b, off, none⟩) n pcap)] 27)) wr.drew ∧ wr.drew.cell? ⟨w.heap.size, 2, none⟩ = some (.slice (some ⟨b, off, none⟩) n pcap) ∧ wr.drew.cell? ⟨b, off + k * 2, none⟩ = some (.int .i64 (K k)) ∧ wr.drew.cell? ⟨b, off + k * 2 + 1, none⟩ = some (.int .i64 (V k)) := ⟨PSr.out.1.drew, k2, h1, h2⟩
        go_wp2
        go_region_held3 (fun w' => Below (w.heap.size + 1) (w.alloc (.cells #[.int .i64 idn, .int .i64 lsn, (.slice (some ⟨b, off, none⟩) n pcap)] 27)) w' ∧ w'.cell? ⟨w.heap.size, 2, none⟩ = some (.slice (some ⟨b, off, none⟩) n pcap) ∧ w'.cell? ⟨b, off + k * 2, none⟩ = some (.int .i64 (K k)) ∧ w'.cell? ⟨b, off + k * 2 + 1, none⟩ = some (.int .i64 (V k))) (first | assumption | (obtain ⟨hKa, hKb, hKc, hKd⟩ := (‹Below (w.heap.size + 1) _ _ ∧ _ ∧ _ ∧ _›); exact ⟨by first | exact keepB hKa | exact keepB' hKa, by go_keep, by go_keep, by go_keep⟩))
          (first | (go_at_call 67; have hk36 := ho36; have HX := (‹Below (w.heap.size + 1) _ _ ∧ _ ∧ _ ∧ _›); refine (l1Bytes_any (V k) 2 _ (by decide) HVB.out.1 HVB.out.2).mono ?_; rintro e wq ⟨vq, rfl, hbq, hoq, hneq⟩; obtain ⟨gq, cq, rfl, hgq⟩ := formB hoq hneq; have hC := cellsq3 HX hbq; clear HX; have hoA := rowB_below hk36 hbq) | (go_at_call 67; have HX := (‹Below (w.heap.size + 1) _ _ ∧ _ ∧ _ ∧ _›); refine (l1Bytes_any (V k) 2 _ (by decide) HVB.out.1 HVB.out.2).mono ?_; rintro e wq ⟨vq, rfl, hbq, hoq, hneq⟩; obtain ⟨gq, cq, rfl, hgq⟩ := formB hoq hneq; have hC := cellsq3 HX hbq; clear HX; skip) | (have HX := (‹Below (w.heap.size + 1) _ _ ∧ _ ∧ _ ∧ _›); refine step_appB _ rfl (.tmp 27) (.tmp 35) rfl (w.heap.size + 1) (.slice a Z.length cap) Z.length (bl Z) rfl (HO.out.alloc _) ⟨wr.heap.size, 0, none⟩ 1 1 [(.int .u8 (K k))] rfl rfl (cell_one_new _ _ _) (one_u8 _) HL1.out (hszB HX.1) ?_; intro v36 w36 ho36 hg36; have hD36 := cellsg3 HBB.out HX (HO.out.alloc _) hg36) | (have HX := (‹Below (w.heap.size + 1) _ _ ∧ _ ∧ _ ∧ _›); refine step_appB _ rfl (.tmp 27) (.tmp 35) rfl (w.heap.size + 1) (.slice a Z.length cap) Z.length (bl Z) rfl (rowB_below (HO.out.alloc _) hbq) ⟨wr.heap.size, 0, none⟩ 1 1 [(.int .u8 (K k))] rfl rfl (newsOne hbq) (one_u8 _) HL1.out (hszB HX.1) ?_; intro v36 w36 ho36 hg36; have hD36 := cellsg3 HBB.out HX (rowB_below (HO.out.alloc _) hbq) hg36; have hoqk := keptQ HO.out hoq hgq.1 HQ1.out hg36) | (have HX := (‹Below (w.heap.size + 1) _ _ ∧ _ ∧ _ ∧ _›); refine step_appB _ rfl (.tmp 27) (.tmp 35) rfl (w.heap.size + 1) (.slice a Z.length cap) Z.length (bl Z) rfl ((rowB_below HO.out hbq).alloc _) ⟨wq.heap.size, 0, none⟩ 1 1 [(.int .u8 (K k))] rfl rfl (cell_one_new _ _ _) (one_u8 _) HL1.out (hszB HX.1) ?_; intro v36 w36 ho36 hg36; have hD36 := cellsg3 HBB.out HX ((rowB_below HO.out hbq).alloc _) hg36; have hoqk := keptQ HO.out (hoq.alloc _) hgq.1 (Nat.le_refl _) hg36) | (have HX := (‹Below (w.heap.size + 1) _ _ ∧ _ ∧ _ ∧ _›); refine step_appB _ rfl (.tmp 36) (.tmp 43) rfl (w.heap.size + 1) v36 (Z.length + 1) (bl Z ++ [(.int .u8 (K k))]) rfl hoA ⟨gq, 0, none⟩ 2 cq (bl (nb (V k) 2)) rfl (nb_bl2 _) (newsB hoq) (bl_one _) HL2.out (hszB HX.1) ?_; intro v44 w44 ho44 hg44; have hD44 := cellsg3 HBB.out HX hoA hg44) | (have HX := (‹Below (w.heap.size + 1) _ _ ∧ _ ∧ _ ∧ _›); refine step_appB _ rfl (.tmp 36) (.tmp 43) rfl (w.heap.size + 1) v36 (Z.length + 1) (bl Z ++ [(.int .u8 (K k))]) rfl ho36 ⟨gq, 0, none⟩ 2 cq (bl (nb (V k) 2)) rfl (nb_bl2 _) (newsB hoqk) (bl_one _) HL2.out (hszB HX.1) ?_; intro v44 w44 ho44 hg44; have hD44 := cellsg3 HBB.out HX ho36 hg44))
        all_goals
          have HR : Hid (Below (w.heap.size + 1) (w.alloc (.cells #[.int .i64 idn, .int .i64 lsn, (.slice (some ⟨b, off, none⟩) n pcap)] 27)) w44 ∧ w44.ownsRow (w.heap.size + 1) 5 1 v44 (hd idn lsn n ++ cb K V (k + 1)).length (bl (hd idn lsn n ++ cb K V (k + 1)))) := by
            refine ⟨hD44.1, ?_⟩
            rw [HCB.out, List.length_append, List.length_append, nb_len, bl_app, bl_app]
            exact ho44
          obtain ⟨a44, cap44, rfl, -⟩ := slice_of_own HR.out.2
          clear hold1 hD44 ho44 hg44 h1 h2 k2
          go_wp2
          go_roundw
          case rel => first | exact ⟨k + 1, a44, cap44, hlt, by go_num, rfl, HR⟩ | ((repeat apply Exists.intro); exact ⟨⟨k + 1, a44, cap44, hlt, by go_num, rfl, HR⟩, rfl⟩)
          case measure => simp [intOf]; omega
      · have hkn : k = n := by omega
        have PSb : Hid (Below (w.heap.size + 1) (w.alloc (.cells #[.int .i64 idn, .int .i64 lsn, (.slice pa n pcap)] 27)) wr ∧ wr.ownsRow (w.heap.size + 1) 5 1 (.slice a (bdy idn lsn n K V).length cap) (bdy idn lsn n K V).length (bl (bdy idn lsn n K V))) := by
          have h := PSr.out
          rw [hkn] at h
          exact h
        have HLE : Hid ((hd idn lsn n ++ cb K V k).length = (bdy idn lsn n K V).length) := by show (hd idn lsn n ++ cb K V k).length = (bdy idn lsn n K V).length; rw [hkn, bdy]
        have HBL : Hid ((bdy idn lsn n K V).length ≤ 46) := by show (bdy idn lsn n K V).length ≤ 46; rw [bdy, List.length_append, hd_len, cb_len]; omega
        have HF0 : Hid (fld idn lsn n K V = bdy idn lsn n K V ++ List.replicate (46 - (bdy idn lsn n K V).length) 0) := rfl
        have HFB : Hid (BytL (fld idn lsn n K V)) := fld_byt _ _ _ _ _
        have HPG : Hid (pgb idn lsn n K V = fld idn lsn n K V ++ nb (sm (fld idn lsn n K V)) 2) := rfl
        clear hkn PSr
        rw [HLE.out]
        clear HLE
        generalize fld idn lsn n K V = F at *
        generalize bdy idn lsn n K V = D at *
        go_wp2
        go_loopg [3] (46 - D.length) (fun gk v wr => ∃ m a cap, gk + m = 46 - D.length ∧ v = .slice a (D ++ List.replicate m 0).length cap ∧ Hid (Below (w.heap.size + 1) (w.alloc (.cells #[.int .i64 idn, .int .i64 lsn, (.slice pa n pcap)] 27)) wr ∧ wr.ownsRow (w.heap.size + 1) 5 1 (.slice a (D ++ List.replicate m 0).length cap) (D ++ List.replicate m 0).length (bl (D ++ List.replicate m 0))))
        case atStart => exact ⟨0, a, cap, by omega, by rw [List.replicate_zero, List.append_nil], by rw [List.replicate_zero, List.append_nil]; exact PSb⟩
        case round =>
          clear PSb
          obtain ⟨m, a2, cap2, hgk, rfl, PSr⟩ := hrel
          have HZL : Hid ((D ++ List.replicate m 0).length = D.length + m) := by show (D ++ List.replicate m 0).length = D.length + m; simp
          generalize hZ : D ++ List.replicate m 0 = Z at *
          have HZ : Hid (D ++ List.replicate m 0 = Z) := hZ
          clear hZ
          have HSZ : Hid ((w.heap.size + 1) ≤ wr.heap.size) := hszB PSr.out.1
          by_cases hlt : Z.length < 46
          · have hlt' : (Z.length : Int) < 46 := by omega
            have HGK : Hid (m + 1 + (gk - 1) = 46 - D.length ∧ 0 < gk) := by have := HZL.out; exact ⟨by omega, by omega⟩
            go_wp2_with (at_builtin; refine wpList_append_own _ rfl (.tmp 48) (.tmp 49) 22 rfl (w.heap.size + 1) 5 i0 (.int .u8 0) 1 1 Try.underlying22 HI.out.1 HI.out.2.1 HI.out.2.2.1 HI.out.2.2.2 rfl (by decide) _ _ _ rfl (PSr.out.2.alloc _) ⟨wr.heap.size, 0, none⟩ 1 1 [.int .u8 0] rfl rfl (cell_one_new _ _ _) (one_u8 _) ?c3 ?c4 ?c5 ?_)
            case c3 => unfold maxLen; omega
            case c4 => omega
            case c5 => have := HSZ.out; simp; omega
            intro v50 w50 ho50 hg50 _
            have HR := app_byte PSr.out.1 HSZ.out PSr.out.2 ho50 hg50
            have HR2 : Hid (Below (w.heap.size + 1) (w.alloc (.cells #[.int .i64 idn, .int .i64 lsn, (.slice pa n pcap)] 27)) w50 ∧ w50.ownsRow (w.heap.size + 1) 5 1 v50 (D ++ List.replicate (m + 1) 0).length (bl (D ++ List.replicate (m + 1) 0))) := by
              refine ⟨HR.2, ?_⟩
              rw [List.replicate_succ', ← List.append_assoc, HZ.out]
              exact HR.1
            obtain ⟨a50, cap50, rfl, -⟩ := slice_of_own HR2.out.2
            clear ho50 hg50 HR
            go_wp2
            go_roundg (gk - 1)
            case measure => have := HGK.out.2; omega
            case rel => exact ⟨m + 1, a50, cap50, by have := HGK.out.1; omega, rfl, HR2⟩
          · have hge : ¬ ((Z.length : Int) < 46) := by omega
            have HZF : Hid (Z = F) := by
              have h1 : m = 46 - D.length := by have := HZL.out; omega
              show Z = F
              rw [← HZ.out, h1, HF0.out]
            have HL46 : Hid (Z.length = 46) := by have := HZL.out; have := HBL.out; show Z.length = 46; omega
            have HZB : Hid (BytL Z) := by show BytL Z; rw [HZF.out]; exact HFB.out
            have HSM : Hid (0 ≤ sm Z ∧ sm Z ≤ 65520) := sumB_bd (fun i => Z.getD i 0) Z.length
            clear HZ hgk HZL
            go_wp2_with fail
            refine (specSum_any Z.length (fun i => Z.getD i 0) a2 cap2 wr (by have := HL46.out; omega) (byt_of HZB.out) (bytes_of_own PSr.out.2)).mono ?_
            rintro e wz ⟨rfl, rfl⟩
            go_wp2_with fail
            refine (l1Bytes_any (sm Z) 2 _ (by omega) HSM.out.1 (by have := HSM.out.2; omega)).mono ?_
            rintro e wq ⟨vq, rfl, hbq, hoq, hneq⟩
            obtain ⟨gq, cq, rfl, hgq⟩ := formB hoq hneq
            have HOA : Hid (wq.ownsRow (w.heap.size + 1) 5 1 (.slice a2 Z.length cap2) Z.length (bl Z)) := rowB_below PSr.out.2 hbq
            have HOQ : Hid (∀ j u, (bl (nb (sm Z) 2))[j]? = some u → wq.cell? ((⟨gq, 0, none⟩ : Addr).add j) = some u) := newsB hoq
            have HBQ : Hid (Below (w.heap.size + 1) (w.alloc (.cells #[.int .i64 idn, .int .i64 lsn, (.slice pa n pcap)] 27)) wq) := belB PSr.out.1 hbq
            have HLQ : Hid ((nb (sm Z) 2).length = 2) := nb_len _ _
            rw [HLQ.out]
            clear hoq hneq hgq hbq
            go_wp2_with (at_builtin; refine wpList_append_own _ rfl (.tmp 51) (.tmp 54) 22 rfl (w.heap.size + 1) 5 i0 (.int .u8 0) 1 1 Try.underlying22 HI.out.1 HI.out.2.1 HI.out.2.2.1 HI.out.2.2.2 rfl (by decide) _ _ _ rfl HOA.out ⟨gq, 0, none⟩ 2 cq (bl (nb (sm Z) 2)) rfl ?c1 ?c2 (bl_one _) ?c3 ?c4 ?c5 ?_)
            case c1 => rw [bl_len, HLQ.out]
            case c2 => exact HOQ.out
            case c3 => rw [HL46.out]; unfold maxLen; omega
            case c4 => rw [HL46.out]; omega
            case c5 => exact hszB HBQ.out
            intro v55 w55 ho55 hg55 _
            have HB55 : Hid (Below (w.heap.size + 1) (w.alloc (.cells #[.int .i64 idn, .int .i64 lsn, (.slice pa n pcap)] 27)) w55) := grB HBQ.out HOA.out hg55
            have HO55 : Hid (w55.ownsRow (w.heap.size + 1) 5 1 v55 (pgb idn lsn n K V).length (bl (pgb idn lsn n K V))) := by
              show w55.ownsRow (w.heap.size + 1) 5 1 v55 (pgb idn lsn n K V).length (bl (pgb idn lsn n K V))
              rw [HPG.out, ← HZF.out, List.length_append, bl_app, HLQ.out]
              exact ho55
            have HF55 : Hid (w55.ownsRow w.heap.size 5 1 v55 (pgb idn lsn n K V).length (bl (pgb idn lsn n K V))) := rowB_down HO55.out (by omega)
            have HBF : Hid (Below w.heap.size w w55) := (below_new _ _).trans (HB55.out.mono (by omega))
            clear ho55 hg55
            go_wp2
            go_ret
            exact ⟨v55, rfl, HBF.out, HF55.out⟩
end Go.Proofs.Ytnhkjdcbaphfcaa
