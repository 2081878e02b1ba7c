/- spec.l1With: the walk. -/
import Derived.Test.YtnhkjdcbaphfcaaWi
import Derived.Deep.AppendLies
namespace Go.Proofs.Ytnhkjdcbaphfcaa
open Go.RowKit Go.Deep
set_option linter.unusedVariables false

set_option maxHeartbeats 1000000 in
theorem specWithout2_some (n : Nat) (K V : Nat → Int) (key : Int) (b off cap : Nat) (w : World) (hn : n ≤ 1000) (hbl : b < w.heap.size)
    (hk : ∀ i, i < n → w.cell? ⟨b, off + i * 2, none⟩ = some (.int .i64 (K i))) (hv : ∀ i, i < n → w.cell? ⟨b, off + i * 2 + 1, none⟩ = some (.int .i64 (V i))) :
    Calls Try.prog 62 #[.slice (some ⟨b, off, none⟩) n cap, .int .i64 key] w fun e w' =>
      ∃ v, e = .returned v ∧ Below w.heap.size w w' ∧ w'.ownsRow w.heap.size 45 2 v (wo K V key n).length (cl (wo K V key n)) ∧ v ≠ .slice none 0 0 := by
  obtain ⟨i0, hi, hz0, hz1, hz2⟩ := info_parts info99
  have HI : Hid (Try.prog.info? 45 = some i0 ∧ i0.zero = some (.agg #[.int .i64 0, .int .i64 0]) ∧ i0.size = 2 ∧ i0.bytes = 16) := ⟨hi, hz0, hz1, hz2⟩
  clear hi hz0 hz1 hz2
  go_enter Try.func62, Try.ntmps62
  go_wp2
  go_loopw [5, 6] (fun v i wr => ∃ k : Nat, k ≤ n ∧ i = .int .i64 k ∧ Below w.heap.size w wr ∧ wr.ownsRow w.heap.size 45 2 v (wo K V key k).length (cl (wo K V key k)) ∧ Hid (v ≠ .slice none 0 0)) (fun _ i _ => n - (intOf i).toNat)
  case atStart => exact ⟨0, Nat.zero_le _, rfl, below_new _ _, World.ownsRow_lit w #[] 0 (Nat.le_refl _) (Nat.zero_le _) rfl, by intro h; cases h⟩
  case round =>
    obtain ⟨k, hk0, rfl, hb, hown, HNE⟩ := hrel
    by_cases hlt : k < n
    · have h1 : wr.cell? ⟨b, off + k * 2, none⟩ = some (.int .i64 (K k)) := (hb.cell (p := ⟨b, _, none⟩) hbl).trans (hk k hlt)
      have h2 : wr.cell? ⟨b, off + k * 2 + 1, none⟩ = some (.int .i64 (V k)) := (hb.cell (p := ⟨b, _, none⟩) hbl).trans (hv k hlt)
      have hlt' : (k : Int) < (n : Int) := by omega
      have HB : Hid (Below w.heap.size w wr) := hb
      have HS : Hid (w.heap.size ≤ wr.heap.size) := hb.size
      have HO : Hid (wr.ownsRow w.heap.size 45 2 u5 (wo K V key k).length (cl (wo K V key k))) := hown
      have hl := wo_len K V key k
      clear hb hown hk hv
      by_cases hc : K k = key
      · have hd : (K k != key) = false := by simpa using hc
        have HW : Hid (wo K V key (k + 1) = wo K V key k) := by show wo K V key (k + 1) = wo K V key k; rw [wo, if_pos hc]
        clear hc
        go_wp2
        go_roundw
        case rel => exact ⟨k + 1, hlt, by go_num, HB.out, by rw [HW.out]; exact HO.out, HNE⟩
        case measure => simp [intOf]; omega
      · have hd : (K k != key) = true := by simpa using hc
        have HW : Hid (wo K V key (k + 1) = wo K V key k ++ [(K k, V k)]) := by show wo K V key (k + 1) = wo K V key k ++ [(K k, V k)]; rw [wo, if_neg hc]
        clear hc
        go_wp2_with (at_builtin; refine wpList_append_own _ rfl _ _ 25 rfl w.heap.size 45 i0 (.agg #[.int .i64 0, .int .i64 0]) 2 16 Try.underlying25 HI.out.1 HI.out.2.1 HI.out.2.2.1 HI.out.2.2.2 rfl (by decide) _ _ _ rfl (HO.out.alloc _) ⟨wr.heap.size, 0, none⟩ 1 1 [.int .i64 (K k), .int .i64 (V k)] rfl rfl (cell_two_new _ _ _ _) ?c2 ?c3 ?c4 ?c5 ?_)
        case c2 => intro x hx; simp at hx; rcases hx with rfl | rfl <;> rfl
        case c3 => unfold maxLen; omega
        case c4 => omega
        case c5 => have hq := HS.out; simp; omega
        intro v' w1 ho1 hg1 hne1
        have HNE1 : Hid (v' ≠ .slice none 0 0) := hne1
        clear hne1
        have HR : Hid _ := app_one HB.out HS.out HO.out ho1 hg1
        clear ho1 hg1
        go_wp2
        go_roundw
        case rel => exact ⟨k + 1, hlt, by go_num, HR.out.2, by rw [HW.out]; exact HR.out.1, HNE1⟩
        case measure => simp [intOf]; omega
    · have hkn : k = n := by omega
      subst hkn
      have HO : Hid (wr.ownsRow w.heap.size 45 2 u5 (wo K V key k).length (cl (wo K V key k))) := hown
      clear hk hv hown
      go_wp2
      go_ret
      exact ⟨_, rfl, hb, HO.out, HNE.out⟩
theorem specWithout2_zero (K V : Nat → Int) (key : Int) (a : Option Addr) (cap : Nat) (w : World) :
    Calls Try.prog 62 #[.slice a 0 cap, .int .i64 key] w fun e w' =>
      ∃ v, e = .returned v ∧ Below w.heap.size w w' ∧ w'.ownsRow w.heap.size 45 2 v (wo K V key 0).length (cl (wo K V key 0)) ∧ v ≠ .slice none 0 0 := by
  go_enter Try.func62, Try.ntmps62
  go_wp2
  go_loop [5, 6] (fun v i => v = .slice (some ⟨w.heap.size, 0, none⟩) 0 0 ∧ i = .int .i64 0) (fun _ _  => 0)
  case atStart => exact ⟨rfl, rfl⟩
  case round =>
    obtain ⟨rfl, rfl⟩ := hrel
    go_wp2
    go_ret
    exact ⟨_, rfl, below_new _ _, World.ownsRow_lit w #[] 0 (Nat.le_refl _) (Nat.zero_le _) rfl, by intro h; cases h⟩
theorem specWithout2_any (n : Nat) (K V : Nat → Int) (key : Int) (a : Option Addr) (cap : Nat) (w : World) (hn : n ≤ 1000) (h : CellsAt w a n K V) :
    Calls Try.prog 62 #[.slice a n cap, .int .i64 key] w fun e w' =>
      ∃ g cap', e = .returned (.slice (some ⟨g, 0, none⟩) (wo K V key n).length cap') ∧ Below w.heap.size w w' ∧ w'.ownsRow w.heap.size 45 2 (.slice (some ⟨g, 0, none⟩) (wo K V key n).length cap') (wo K V key n).length (cl (wo K V key n)) ∧
        (wo K V key n).length ≤ cap' ∧ g < w'.heap.size := by
  have fin : ∀ (e : Ending) (w' : World), (∃ v, e = .returned v ∧ Below w.heap.size w w' ∧ w'.ownsRow w.heap.size 45 2 v (wo K V key n).length (cl (wo K V key n)) ∧ v ≠ .slice none 0 0) →
      ∃ g cap', e = .returned (.slice (some ⟨g, 0, none⟩) (wo K V key n).length cap') ∧ Below w.heap.size w w' ∧ w'.ownsRow w.heap.size 45 2 (.slice (some ⟨g, 0, none⟩) (wo K V key n).length cap') (wo K V key n).length (cl (wo K V key n)) ∧
        (wo K V key n).length ≤ cap' ∧ g < w'.heap.size := by
    rintro e w' ⟨v, rfl, hb, ho, hne⟩
    have ho' := ho
    rcases ho.2 with ⟨rfl, h0⟩ | ⟨g, cap', cur, rfl, hbg, hg, hnc, hcm, hcs, htake⟩
    · exact absurd rfl hne
    · exact ⟨g, cap', rfl, hb, ho', hnc, by obtain ⟨hlt, _⟩ := Array.getElem?_eq_some_iff.1 hg; exact hlt⟩
  rcases h with rfl | ⟨b, off, rfl, hbl, hk, hv⟩
  · exact (specWithout2_zero K V key a cap w).mono fin
  · exact (specWithout2_some n K V key b off cap w hn hbl hk hv).mono fin

/-! ### the law on append at a step of a region that draws -/
theorem step_app {ops : Array Oper} {o : Oper} {a : Act} {K : Act → World → Prop} {Q : Exit → Act → World → Prop} {E : Prop} (w : World) (hgd : o.guard = none) (s x : Operand)
    (ho : o.op = .call { callee := .builtin .append, args := #[s, x], argTypes := #[25, 25] })
    (base : Nat) (v : Value) (n : Nat) (xs : List Value) (hs : a.eval s = v) (hown : w.ownsRow base 45 2 v n xs)
    (ad : Addr) (m c : Nat) (news : List Value) (hx : a.eval x = .slice (some ad) m c) (hl : news.length = m * 2) (hnews : ∀ j u, news[j]? = some u → w.cell? (ad.add j) = some u) (h1 : ∀ u ∈ news, u.oneCell' = true)
    (h63 : n + m ≤ 100000) (hbase : base ≤ w.heap.size)
    (h : ∀ v' w', w'.ownsRow base 45 2 v' (n + m) (xs ++ news) → w.grownBy w' v.ownBlock → K (a.put o.dst v') w') :
    if Region.wanted o (yielded ops a.tmps) = true then Oper.wp Try.prog o a w K Q else E := by
  have hw : Region.wanted o (yielded ops a.tmps) = true := by simp [Region.wanted, hgd]
  rw [if_pos hw]
  obtain ⟨i0, hi, hz0, hz1, hz2⟩ := info_parts info99
  exact wp_append_own w s x 25 ho base 45 i0 _ 2 16 Try.underlying25 hi hz0 hz1 hz2 rfl (by decide) v n xs hs hown ad m c news hx hl hnews h1 (by unfold maxLen; omega) (by omega) hbase fun v' w' h2 h3 _ => h v' w' h2 h3
theorem keep_alloc {w1 W : World} {o : Obj} (h : Below w1.heap.size w1 W.drew) : Below w1.heap.size w1 (W.alloc o).drew := (Below.alloc (w := W) ⟨h.os, h.tape, h.output, h.size, h.block⟩ h.size o).drew
theorem keep_alloc' {w1 W : World} {o : Obj} (h : Below w1.heap.size w1 W) : Below w1.heap.size w1 (W.alloc o) := h.alloc h.size o
theorem keep_app {w1 W wa : World} {v : Value} {n : Nat} {xs : List Value} (h : Below w1.heap.size w1 W) (ho : W.ownsRow w1.heap.size 45 2 v n xs) (hg : W.grownBy wa v.ownBlock) : Below w1.heap.size w1 wa :=
  h.grown hg h.size fun q hq => (ho.lt q hq).1
theorem nil27a (w : World) : (w.alloc (.cells #[] 45)).drew.ownsRow w.heap.size 45 2 (.slice (some ⟨w.heap.size, 0, none⟩) 0 0) 0 [] := World.ownsRow_lit w #[] 0 (Nat.le_refl _) (Nat.zero_le _) rfl
theorem nil27b (w : World) (o : Obj) : ((w.alloc (.cells #[] 45)).alloc o).drew.ownsRow w.heap.size 45 2 (.slice (some ⟨w.heap.size, 0, none⟩) 0 0) 0 [] := (World.ownsRow_lit (base := w.heap.size) (size := 2) (e := 45) w #[] 0 (Nat.le_refl _) (Nat.zero_le _) rfl).alloc o
theorem nil27c (w : World) (o : Obj) : ((w.alloc o).alloc (.cells #[] 45)).drew.ownsRow w.heap.size 45 2 (.slice (some ⟨w.heap.size + 1, 0, none⟩) 0 0) 0 [] := by
  have h := World.ownsRow_lit (base := w.heap.size) (size := 2) (e := 45) (w.alloc o) #[] 0 (by simp) (Nat.zero_le _) rfl
  rw [World.size_alloc] at h
  exact h
theorem two_one {x y : Int} : ∀ u ∈ [Value.int .i64 x, Value.int .i64 y], u.oneCell' = true := by intro u hu; simp at hu; rcases hu with rfl | rfl <;> rfl
/-- A new cell's block is none that an append to an earlier new row writes. -/
theorem kept_two2 {w wa : World} {x y : Value} (hg : ((w.alloc (.cells #[] 45)).alloc (.cells #[x, y] 45)).drew.grownBy wa (Value.ownBlock (.slice (some ⟨w.heap.size, 0, none⟩) 0 0))) :
    ∀ j u, [x, y][j]? = some u → wa.cell? ((⟨w.heap.size + 1, 0, none⟩ : Addr).add j) = some u := by
  intro j u hj
  have h := cell_two_new2 w (.cells #[] 45) x y 45 j u hj
  rw [WideShapes.add_plain] at h ⊢
  rw [hg.cell_far ⟨w.heap.size + 1, 0 + j, none⟩ (by simp) (by simp [Value.ownBlock])]
  exact h
theorem kept_two1 {w wa : World} {x y : Value} (hg : ((w.alloc (.cells #[x, y] 45)).alloc (.cells #[] 45)).drew.grownBy wa (Value.ownBlock (.slice (some ⟨w.heap.size + 1, 0, none⟩) 0 0))) :
    ∀ j u, [x, y][j]? = some u → wa.cell? ((⟨w.heap.size, 0, none⟩ : Addr).add j) = some u := by
  intro j u hj
  have h := cell_two_new w x y 45 j u hj
  rw [WideShapes.add_plain] at h ⊢
  rw [hg.cell_far ⟨w.heap.size, 0 + j, none⟩ (by simp; omega) (by simp [Value.ownBlock])]
  show ((w.alloc (.cells #[x, y] 45)).alloc (.cells #[] 45)).cell? ⟨w.heap.size, 0 + j, none⟩ = some u
  exact cell_alloc h _
theorem fin_own {w w1 wc : World} {v : Value} {kL vL : Nat → Int} {k m : Nat} {key val : Int} (hb : Below w.heap.size w w1) (ho : wc.ownsRow w1.heap.size 45 2 v (k + 1 + m) (cl (lst kL vL 0 k) ++ [.int .i64 key, .int .i64 val] ++ cl (lst kL vL k m))) :
    wc.ownsRow w.heap.size 45 2 v (lst kL vL 0 k ++ [(key, val)] ++ lst kL vL k m).length (cl (lst kL vL 0 k ++ [(key, val)] ++ lst kL vL k m)) := by
  refine ownsRow_down ?_ hb.size
  rw [cl_app, cl_app, List.length_append, List.length_append, lst_len, lst_len]
  exact ho
/-- What spec.l1With answers. -/
def ws (K V : Nat → Int) (key val : Int) (n : Nat) : List (Int × Int) := lst (kOf (wo K V key n)) (vOf (wo K V key n)) 0 (pl (kOf (wo K V key n)) key (wo K V key n).length) ++ [(key, val)] ++ lst (kOf (wo K V key n)) (vOf (wo K V key n)) (pl (kOf (wo K V key n)) key (wo K V key n).length) ((wo K V key n).length - (pl (kOf (wo K V key n)) key (wo K V key n).length))

set_option maxHeartbeats 4000000 in
theorem specWith_any (n : Nat) (K V : Nat → Int) (key val : Int) (a : Option Addr) (cap : Nat) (w : World) (hn : n ≤ 1000) (h : CellsAt w a n K V) :
    Calls Try.prog 52 #[.slice a n cap, .int .i64 key, .int .i64 val] w fun e w' =>
      ∃ v, e = .returned v ∧ Below w.heap.size w w' ∧ w'.ownsRow w.heap.size 45 2 v (ws K V key val n).length (cl (ws K V key val n)) := by
  have hlen := wo_len K V key n
  go_enter Try.func52, Try.ntmps52
  go_wp2_with fail
  refine (specWithout2_any n K V key a cap w hn h).mono ?_
  rintro e w1 ⟨g, cap', rfl, hb1, ho1, hcap, hg1⟩
  obtain ⟨a', c2, e2, hO⟩ := own_of_row ho1
  simp only [Value.slice.injEq] at e2
  obtain ⟨e3, -, -⟩ := e2
  subst e3
  have hrw := rows_at hO.at
  have HNR : Hid (∀ W, Below w1.heap.size w1 W → ∀ i m o, i + m ≤ (wo K V key n).length → o = i * 2 → ∀ j u, (cl (lst (kOf (wo K V key n)) (vOf (wo K V key n)) i m))[j]? = some u → W.cell? ((⟨g, o, none⟩ : Addr).add j) = some u) := fun W hb i m o h1 h2 => news_cells (off := 0) (fun i hi => (hb.cell (p := ⟨g, _, none⟩) hg1).trans (hrw.1 i hi)) (fun i hi => (hb.cell (p := ⟨g, _, none⟩) hg1).trans (hrw.2 i hi)) i m h1 o (by omega)
  have HK : Hid (∀ i, i < (wo K V key n).length → w1.cell? ⟨g, i * 2, none⟩ = some (.int .i64 ((kOf (wo K V key n)) i))) := fun i hi => by have := hrw.1 i hi; simpa using this
  have HWS : Hid (ws K V key val n = lst (kOf (wo K V key n)) (vOf (wo K V key n)) 0 (pl (kOf (wo K V key n)) key (wo K V key n).length) ++ [(key, val)] ++ lst (kOf (wo K V key n)) (vOf (wo K V key n)) (pl (kOf (wo K V key n)) key (wo K V key n).length) ((wo K V key n).length - (pl (kOf (wo K V key n)) key (wo K V key n).length))) := rfl
  have HB1 : Hid (Below w.heap.size w w1) := hb1
  clear ho1 hO hrw h hb1
  have hlen1 : (wo K V key n).length ≤ 1000 := by omega
  have HPL : Hid ((pl (kOf (wo K V key n)) key (wo K V key n).length) ≤ (wo K V key n).length) := pl_le _ _ _
  generalize (wo K V key n).length = len at *
  generalize (kOf (wo K V key n)) = kL at *
  generalize (vOf (wo K V key n)) = vL at *
  clear hlen hn
  go_wp2_with fail
  go_loop [8] (fun i => ∃ k : Nat, k ≤ len ∧ i = .int .i64 k ∧ Hid (pl kL key len = plc kL key (len - k) k)) (fun i => len - (intOf i).toNat)
  case atStart => exact ⟨0, Nat.zero_le _, rfl, rfl⟩
  case round =>
    obtain ⟨k, hk0, rfl, HC⟩ := hrel
    have fin : ∀ (hkp : pl kL key len = k), True := fun _ => trivial
    by_cases hlt : k < len ∧ kL k < key
    · obtain ⟨hlt, hc⟩ := hlt
      have h1 := HK.out k hlt
      have hlt' : (k : Int) < (len : Int) := by omega
      have HA : Hid (pl kL key len = plc kL key (len - (k + 1)) (k + 1)) := by refine (HC.out.trans (plc_at hlt)).trans ?_; rw [if_pos hc]
      clear HC fin
      go_wp2
      go_round
      case rel => exact ⟨k + 1, hlt, by go_num, HA⟩
      case measure => simp [intOf]; omega
    · have HP : Hid (pl kL key len = k) := by
        refine HC.out.trans ?_
        by_cases hl : k < len
        · rw [plc_at hl, if_neg (fun hc => hlt ⟨hl, hc⟩)]
        · rw [show len - k = 0 by omega, plc]
      have hstop : (∃ x, k < len ∧ w1.cell? ⟨g, k * 2, none⟩ = some (.int .i64 x) ∧ decide (x < key) = false) ∨ decide ((k : Int) < (len : Int)) = false := by
        by_cases hl : k < len
        · exact .inl ⟨_, hl, HK.out k hl, by simpa using fun hc => hlt ⟨hl, hc⟩⟩
        · exact .inr (by simp; omega)
      clear HC hlt fin HK
      have HL1 : Hid ((cl (lst kL vL 0 k)).length = k * 2) := by show (cl (lst kL vL 0 k)).length = k * 2; rw [cl_len, lst_len]
      have HL2 : Hid ((cl (lst kL vL k (len - k))).length = (len - k) * 2) := by show (cl (lst kL vL k (len - k))).length = (len - k) * 2; rw [cl_len, lst_len]
      have HA1 : Hid (0 + k ≤ len) := by show 0 + k ≤ len; omega
      have HA2 : Hid (0 + k ≤ 100000) := by show 0 + k ≤ 100000; omega
      have HA3 : Hid (k + 1 ≤ 100000) := by show k + 1 ≤ 100000; omega
      have HA4 : Hid (k + 1 + (len - k) ≤ 100000) := by show k + 1 + (len - k) ≤ 100000; omega
      have HA5 : Hid (k + (len - k) ≤ len) := by show k + (len - k) ≤ len; omega
      have hkc : (k : Int) ≤ (cap' : Int) := by omega
      have hkl : (k : Int) ≤ (len : Int) := by omega
      rcases hstop with ⟨x, hl, h1, hd⟩ | hd
      · have hlt2 : (k : Int) < (len : Int) := by omega
        have hce : ¬ cap' = k := by omega
        go_wp2
        go_region_held3 (fun w' => Below w1.heap.size w1 w') (first | assumption | exact (Below.refl _ _).drew | exact keep_alloc ‹_› | exact keep_alloc' ‹_›)
            (first | (refine step_app _ rfl (.tmp 27) (.tmp 30) rfl w1.heap.size _ 0 [] rfl (nil27a w1) ⟨g, 0, none⟩ k cap' (cl (lst kL vL 0 k)) rfl HL1.out (HNR.out _ ‹Below w1.heap.size w1 _› 0 k 0 HA1.out rfl) (cl_one _) HA2.out (‹Below w1.heap.size w1 _›).size ?_; intro v31 wa ho31 hg31; have hS31 := keep_app (‹Below w1.heap.size w1 _›) (nil27a w1) hg31; simp only [Nat.zero_add, List.nil_append] at ho31) | (refine step_app _ rfl (.tmp 27) (.tmp 30) rfl w1.heap.size _ 0 [] rfl (nil27b w1 _) ⟨g, 0, none⟩ k cap' (cl (lst kL vL 0 k)) rfl HL1.out (HNR.out _ ‹Below w1.heap.size w1 _› 0 k 0 HA1.out rfl) (cl_one _) HA2.out (‹Below w1.heap.size w1 _›).size ?_; intro v31 wa ho31 hg31; have hS31 := keep_app (‹Below w1.heap.size w1 _›) (nil27b w1 _) hg31; have hc36 := kept_two2 hg31; simp only [Nat.zero_add, List.nil_append] at ho31) | (refine step_app _ rfl (.tmp 27) (.tmp 30) rfl w1.heap.size _ 0 [] rfl (nil27c w1 _) ⟨g, 0, none⟩ k cap' (cl (lst kL vL 0 k)) rfl HL1.out (HNR.out _ ‹Below w1.heap.size w1 _› 0 k 0 HA1.out rfl) (cl_one _) HA2.out (‹Below w1.heap.size w1 _›).size ?_; intro v31 wa ho31 hg31; have hS31 := keep_app (‹Below w1.heap.size w1 _›) (nil27c w1 _) hg31; have hc36 := kept_two1 hg31; simp only [Nat.zero_add, List.nil_append] at ho31) | (refine step_app _ rfl (.tmp 31) (.tmp 35) rfl w1.heap.size v31 k (cl (lst kL vL 0 k)) rfl (ho31.alloc _) ⟨wa.heap.size, 0, none⟩ 1 1 [.int .i64 key, .int .i64 val] rfl rfl (cell_two_new _ _ _ _) two_one HA3.out (‹Below w1.heap.size w1 _›).size ?_; intro v36 wb ho36 hg36; have hS36 := keep_app (‹Below w1.heap.size w1 _›) (ho31.alloc _) hg36) | (refine step_app _ rfl (.tmp 31) (.tmp 35) rfl w1.heap.size v31 k (cl (lst kL vL 0 k)) rfl ho31 ⟨w1.heap.size + 1, 0, none⟩ 1 1 [.int .i64 key, .int .i64 val] rfl rfl hc36 two_one HA3.out (‹Below w1.heap.size w1 _›).size ?_; intro v36 wb ho36 hg36; have hS36 := keep_app (‹Below w1.heap.size w1 _›) ho31 hg36) | (refine step_app _ rfl (.tmp 31) (.tmp 35) rfl w1.heap.size v31 k (cl (lst kL vL 0 k)) rfl ho31 ⟨w1.heap.size, 0, none⟩ 1 1 [.int .i64 key, .int .i64 val] rfl rfl hc36 two_one HA3.out (‹Below w1.heap.size w1 _›).size ?_; intro v36 wb ho36 hg36; have hS36 := keep_app (‹Below w1.heap.size w1 _›) ho31 hg36) | (refine step_app _ rfl (.tmp 36) (.tmp 39) rfl w1.heap.size v36 (k + 1) (cl (lst kL vL 0 k) ++ [.int .i64 key, .int .i64 val]) rfl ho36 ⟨g, k * 2, none⟩ (len - k) (cap' - k) (cl (lst kL vL k (len - k))) rfl HL2.out (HNR.out _ ‹Below w1.heap.size w1 _› k (len - k) (k * 2) HA5.out rfl) (cl_one _) HA4.out (‹Below w1.heap.size w1 _›).size ?_; intro v40 wc ho40 hg40; have hS40 := keep_app (‹Below w1.heap.size w1 _›) ho36 hg40))
        all_goals (go_wp2; go_ret; refine ⟨_, rfl, below_then HB1.out hS40, ?_⟩; rw [HWS.out, HP.out]; exact fin_own HB1.out ho40)
      · have hnlt : ¬ k < len := by simpa using hd
        by_cases hce : cap' = k
        · have HV : Hid (∀ W, Below w1.heap.size w1 W → ∀ j u, (cl (lst kL vL k (len - k)))[j]? = some u → W.cell? ((⟨g, 0, none⟩ : Addr).add j) = some u) := fun W _ j u hj => by
            have hlt := (List.getElem?_eq_some_iff.1 hj).1
            rw [HL2.out] at hlt
            omega
          have hce2 : k = cap' := hce.symm
          clear hce hkc hcap
          subst hce2
          go_wp2
          go_region_held3 (fun w' => Below w1.heap.size w1 w') (first | assumption | exact (Below.refl _ _).drew | exact keep_alloc ‹_› | exact keep_alloc' ‹_›)
            (first | (refine step_app _ rfl (.tmp 27) (.tmp 30) rfl w1.heap.size _ 0 [] rfl (nil27a w1) ⟨g, 0, none⟩ k k (cl (lst kL vL 0 k)) rfl HL1.out (HNR.out _ ‹Below w1.heap.size w1 _› 0 k 0 HA1.out rfl) (cl_one _) HA2.out (‹Below w1.heap.size w1 _›).size ?_; intro v31 wa ho31 hg31; have hS31 := keep_app (‹Below w1.heap.size w1 _›) (nil27a w1) hg31; simp only [Nat.zero_add, List.nil_append] at ho31) | (refine step_app _ rfl (.tmp 27) (.tmp 30) rfl w1.heap.size _ 0 [] rfl (nil27b w1 _) ⟨g, 0, none⟩ k k (cl (lst kL vL 0 k)) rfl HL1.out (HNR.out _ ‹Below w1.heap.size w1 _› 0 k 0 HA1.out rfl) (cl_one _) HA2.out (‹Below w1.heap.size w1 _›).size ?_; intro v31 wa ho31 hg31; have hS31 := keep_app (‹Below w1.heap.size w1 _›) (nil27b w1 _) hg31; have hc36 := kept_two2 hg31; simp only [Nat.zero_add, List.nil_append] at ho31) | (refine step_app _ rfl (.tmp 27) (.tmp 30) rfl w1.heap.size _ 0 [] rfl (nil27c w1 _) ⟨g, 0, none⟩ k k (cl (lst kL vL 0 k)) rfl HL1.out (HNR.out _ ‹Below w1.heap.size w1 _› 0 k 0 HA1.out rfl) (cl_one _) HA2.out (‹Below w1.heap.size w1 _›).size ?_; intro v31 wa ho31 hg31; have hS31 := keep_app (‹Below w1.heap.size w1 _›) (nil27c w1 _) hg31; have hc36 := kept_two1 hg31; simp only [Nat.zero_add, List.nil_append] at ho31) | (refine step_app _ rfl (.tmp 31) (.tmp 35) rfl w1.heap.size v31 k (cl (lst kL vL 0 k)) rfl (ho31.alloc _) ⟨wa.heap.size, 0, none⟩ 1 1 [.int .i64 key, .int .i64 val] rfl rfl (cell_two_new _ _ _ _) two_one HA3.out (‹Below w1.heap.size w1 _›).size ?_; intro v36 wb ho36 hg36; have hS36 := keep_app (‹Below w1.heap.size w1 _›) (ho31.alloc _) hg36) | (refine step_app _ rfl (.tmp 31) (.tmp 35) rfl w1.heap.size v31 k (cl (lst kL vL 0 k)) rfl ho31 ⟨w1.heap.size + 1, 0, none⟩ 1 1 [.int .i64 key, .int .i64 val] rfl rfl hc36 two_one HA3.out (‹Below w1.heap.size w1 _›).size ?_; intro v36 wb ho36 hg36; have hS36 := keep_app (‹Below w1.heap.size w1 _›) ho31 hg36) | (refine step_app _ rfl (.tmp 31) (.tmp 35) rfl w1.heap.size v31 k (cl (lst kL vL 0 k)) rfl ho31 ⟨w1.heap.size, 0, none⟩ 1 1 [.int .i64 key, .int .i64 val] rfl rfl hc36 two_one HA3.out (‹Below w1.heap.size w1 _›).size ?_; intro v36 wb ho36 hg36; have hS36 := keep_app (‹Below w1.heap.size w1 _›) ho31 hg36) | (refine step_app _ rfl (.tmp 36) (.tmp 39) rfl w1.heap.size v36 (k + 1) (cl (lst kL vL 0 k) ++ [.int .i64 key, .int .i64 val]) rfl ho36 ⟨g, 0, none⟩ (len - k) 0 (cl (lst kL vL k (len - k))) rfl HL2.out (HV.out _ ‹Below w1.heap.size w1 _›) (cl_one _) HA4.out (‹Below w1.heap.size w1 _›).size ?_; intro v40 wc ho40 hg40; have hS40 := keep_app (‹Below w1.heap.size w1 _›) ho36 hg40))
          all_goals (go_wp2; go_ret; refine ⟨_, rfl, below_then HB1.out hS40, ?_⟩; rw [HWS.out, HP.out]; exact fin_own HB1.out ho40)
        · go_wp2
          go_region_held3 (fun w' => Below w1.heap.size w1 w') (first | assumption | exact (Below.refl _ _).drew | exact keep_alloc ‹_› | exact keep_alloc' ‹_›)
            (first | (refine step_app _ rfl (.tmp 27) (.tmp 30) rfl w1.heap.size _ 0 [] rfl (nil27a w1) ⟨g, 0, none⟩ k cap' (cl (lst kL vL 0 k)) rfl HL1.out (HNR.out _ ‹Below w1.heap.size w1 _› 0 k 0 HA1.out rfl) (cl_one _) HA2.out (‹Below w1.heap.size w1 _›).size ?_; intro v31 wa ho31 hg31; have hS31 := keep_app (‹Below w1.heap.size w1 _›) (nil27a w1) hg31; simp only [Nat.zero_add, List.nil_append] at ho31) | (refine step_app _ rfl (.tmp 27) (.tmp 30) rfl w1.heap.size _ 0 [] rfl (nil27b w1 _) ⟨g, 0, none⟩ k cap' (cl (lst kL vL 0 k)) rfl HL1.out (HNR.out _ ‹Below w1.heap.size w1 _› 0 k 0 HA1.out rfl) (cl_one _) HA2.out (‹Below w1.heap.size w1 _›).size ?_; intro v31 wa ho31 hg31; have hS31 := keep_app (‹Below w1.heap.size w1 _›) (nil27b w1 _) hg31; have hc36 := kept_two2 hg31; simp only [Nat.zero_add, List.nil_append] at ho31) | (refine step_app _ rfl (.tmp 27) (.tmp 30) rfl w1.heap.size _ 0 [] rfl (nil27c w1 _) ⟨g, 0, none⟩ k cap' (cl (lst kL vL 0 k)) rfl HL1.out (HNR.out _ ‹Below w1.heap.size w1 _› 0 k 0 HA1.out rfl) (cl_one _) HA2.out (‹Below w1.heap.size w1 _›).size ?_; intro v31 wa ho31 hg31; have hS31 := keep_app (‹Below w1.heap.size w1 _›) (nil27c w1 _) hg31; have hc36 := kept_two1 hg31; simp only [Nat.zero_add, List.nil_append] at ho31) | (refine step_app _ rfl (.tmp 31) (.tmp 35) rfl w1.heap.size v31 k (cl (lst kL vL 0 k)) rfl (ho31.alloc _) ⟨wa.heap.size, 0, none⟩ 1 1 [.int .i64 key, .int .i64 val] rfl rfl (cell_two_new _ _ _ _) two_one HA3.out (‹Below w1.heap.size w1 _›).size ?_; intro v36 wb ho36 hg36; have hS36 := keep_app (‹Below w1.heap.size w1 _›) (ho31.alloc _) hg36) | (refine step_app _ rfl (.tmp 31) (.tmp 35) rfl w1.heap.size v31 k (cl (lst kL vL 0 k)) rfl ho31 ⟨w1.heap.size + 1, 0, none⟩ 1 1 [.int .i64 key, .int .i64 val] rfl rfl hc36 two_one HA3.out (‹Below w1.heap.size w1 _›).size ?_; intro v36 wb ho36 hg36; have hS36 := keep_app (‹Below w1.heap.size w1 _›) ho31 hg36) | (refine step_app _ rfl (.tmp 31) (.tmp 35) rfl w1.heap.size v31 k (cl (lst kL vL 0 k)) rfl ho31 ⟨w1.heap.size, 0, none⟩ 1 1 [.int .i64 key, .int .i64 val] rfl rfl hc36 two_one HA3.out (‹Below w1.heap.size w1 _›).size ?_; intro v36 wb ho36 hg36; have hS36 := keep_app (‹Below w1.heap.size w1 _›) ho31 hg36) | (refine step_app _ rfl (.tmp 36) (.tmp 39) rfl w1.heap.size v36 (k + 1) (cl (lst kL vL 0 k) ++ [.int .i64 key, .int .i64 val]) rfl ho36 ⟨g, k * 2, none⟩ (len - k) (cap' - k) (cl (lst kL vL k (len - k))) rfl HL2.out (HNR.out _ ‹Below w1.heap.size w1 _› k (len - k) (k * 2) HA5.out rfl) (cl_one _) HA4.out (‹Below w1.heap.size w1 _›).size ?_; intro v40 wc ho40 hg40; have hS40 := keep_app (‹Below w1.heap.size w1 _›) ho36 hg40))
          all_goals (go_wp2; go_ret; refine ⟨_, rfl, below_then HB1.out hS40, ?_⟩; rw [HWS.out, HP.out]; exact fin_own HB1.out ho40)
end Go.Proofs.Ytnhkjdcbaphfcaa
