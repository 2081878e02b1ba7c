/- Draws of pages: spec.l1Cells, spec.l1Page. -/
import Derived.Test.YtnhkjdcbaphfcaaCgd
import Derived.Test.YtnhkjdcbaphfcaaDsc
namespace Go.Proofs.Ytnhkjdcbaphfcaa
open Go.RowKit Go.Deep
set_option linter.unusedVariables false
set_option linter.unusedSimpArgs false
set_option maxRecDepth 20000

theorem own_keep {w w' : World} {base base' n s : Nat} {e : TypeId} {v : Value} {xs : List Value} (h : w.ownsRow base e s v n xs) (hl : base' ≤ base) (hb : ∀ q, v.ownBlock = some q → w'.heap[q]? = w.heap[q]?) : w'.ownsRow base' e s v n xs := by
  obtain ⟨h1, h2 | ⟨g, cap, cur, rfl, k1, k2, k3⟩⟩ := h
  · exact ⟨h1, .inl h2⟩
  · exact ⟨h1, .inr ⟨g, cap, cur, rfl, Nat.le_trans hl k1, (hb g rfl).trans k2, k3⟩⟩
/-- Cells are drawn: the source in block S, the list in blocks of its own. -/
structure Dl (w wr : World) (S : Nat) (a : Option Addr) (kk cap : Nat) (z : Nat → Int) (t : Nat) (v : Value) (L : List (Int × Int)) : Prop where
  ws : Writes S (S + 1) w wr
  hS : S < w.heap.size
  src : Src wr S a kk cap z t
  own : wr.ownsRow w.heap.size 45 2 v L.length (cl L)
section
variable {w w0 wr w2 : World} {S : Nat} {a : Option Addr} {kk cap : Nat} {z : Nat → Int} {t t' : Nat} {v : Value} {L : List (Int × Int)}
theorem Dl.dw (h : Dl w wr S a kk cap z t v L) (g : Dw S a kk cap z t' wr w2) : Dl w w2 S a kk cap z t' v L := by
  have h1 := h.hS
  exact ⟨h.ws.trans g.1, h1, g.2, own_keep h.own (Nat.le_refl _) fun q hq => g.1.block q (h.own.lt q hq).2 (by have := (h.own.lt q hq).1; omega)⟩
theorem Dl.up (h : Dl w wr S a kk cap z t v L) (g : Below wr.heap.size wr w2) : Dl w w2 S a kk cap z t v L :=
  ⟨h.ws.trans (Writes.of_below g), h.hS, h.src.below g, own_keep h.own (Nat.le_refl _) fun q hq => g.block q (h.own.lt q hq).2⟩
theorem Dl.from (d : Dw S a kk cap z t w0 wr) (hS : S < w0.heap.size) (h : Dl wr w2 S a kk cap z t' v L) : Dl w0 w2 S a kk cap z t' v L :=
  ⟨d.1.trans h.ws, hS, h.src, own_keep h.own d.1.size fun _ _ => rfl⟩
theorem Dl.fresh {v' : Value} {L' : List (Int × Int)} (h : Dl w wr S a kk cap z t v L) (g : Below wr.heap.size wr w2) (ho : w2.ownsRow wr.heap.size 45 2 v' L'.length (cl L')) : Dl w w2 S a kk cap z t v' L' :=
  ⟨h.ws.trans (Writes.of_below g), h.hS, h.src.below g, own_keep ho h.ws.size fun _ _ => rfl⟩
theorem src_block' (h : Src w S a kk cap z t) (hz : w.heap.size ≤ w2.heap.size) (e : ∀ b, b ≤ S → w2.heap[b]? = w.heap[b]?) : Src w2 S a kk cap z t := by
  have g : ∀ i, w2.cell? ⟨S, i, none⟩ = w.cell? ⟨S, i, none⟩ := fun i => World.cell?_of_block (w := w) (a := ⟨S, i, none⟩) (e S (Nat.le_refl _))
  refine ⟨(g 0).trans h.c0, (g 1).trans h.c1, fun i => (World.frozen?_of_block (w := w) (a := ⟨S, i, none⟩) (e S (Nat.le_refl _))).trans (h.f i), ?_, h.far, h.byt, h.len⟩
  rcases h.b with e1 | ⟨b, off, rfl, hl, hc⟩
  · exact .inl e1
  · rcases h.far b off rfl with e1 | e1
    · exact .inl e1
    · exact .inr ⟨b, off, rfl, Nat.lt_of_lt_of_le hl hz, fun i hi => (World.cell?_of_block (w := w) (a := ⟨b, off + i, none⟩) (e b (by omega))).trans (hc i hi)⟩
/-- A cell of a new block, not the list's, is set. -/
theorem Dl.set (h : Dl w wr S a kk cap z t v L) {B : Nat} (hB : w.heap.size ≤ B) (hne : v.ownBlock ≠ some B) (i : Nat) (x : Value) : Dl w (wr.setCell ⟨B, i, none⟩ x) S a kk cap z t v L := by
  have h1 := h.hS
  have e : ∀ k, k ≠ B → (wr.setCell ⟨B, i, none⟩ x).heap[k]? = wr.heap[k]? := fun k hk => Below.heap_setCell _ _ _ _ (by show ¬ k = B; exact hk)
  have hz : (wr.setCell ⟨B, i, none⟩ x).heap.size = wr.heap.size := by simp [World.setCell]
  exact ⟨⟨h.ws.os, h.ws.tape, h.ws.output, by rw [hz]; exact h.ws.size, fun k hk hd => (e k (by omega)).trans (h.ws.block k hk hd)⟩, h1, src_block' h.src (by rw [hz]; exact Nat.le_refl _) fun b hb => e b (by omega), own_keep h.own (Nat.le_refl _) fun q hq => e q fun hh => hne (by rw [hq, hh])⟩
theorem Dl.below (h : Dl w wr S a kk cap z t v L) (hs : w0.heap.size ≤ S) (hb : Below w0.heap.size w0 w) : Below w0.heap.size w0 wr := by
  have h1 := h.ws
  exact ⟨h1.os.trans hb.os, h1.tape.trans hb.tape, h1.output.trans hb.output, Nat.le_trans hb.size h1.size, fun b hbl => (h1.block b (Nat.lt_of_lt_of_le hbl hb.size) (.inl (by omega))).trans (hb.block b hbl)⟩
end
theorem cells_nil (w : World) : (w.alloc (.cells #[] 45)).ownsRow w.heap.size 45 2 (.slice (some ⟨w.heap.size, 0, none⟩) 0 0) ([] : List (Int × Int)).length (cl []) := World.ownsRow_lit w #[] 0 (Nat.le_refl _) (Nat.zero_le _) rfl
theorem cells_shape {w : World} {base : Nat} {v : Value} {L : List (Int × Int)} (h : w.ownsRow base 45 2 v L.length (cl L)) : ∃ ra rc, v = .slice ra L.length rc ∧ L.length ≤ rc ∧ CellsAt w ra L.length (kOf L) (vOf L) := by
  obtain ⟨ra, rc, rfl, ho⟩ := own_of_row h
  refine ⟨ra, rc, rfl, ?_, ho.at⟩
  rcases h.2 with ⟨e, h0⟩ | ⟨g, cap, cur, e, _, _, h9, _⟩
  · omega
  · simp only [Value.slice.injEq, true_and] at e
    obtain ⟨-, rfl⟩ := e
    exact h9
theorem ws_len (K V : Nat → Int) (key val : Int) (n : Nat) : (ws K V key val n).length ≤ n + 1 := by
  have h1 := wo_len K V key n
  have h2 := pl_le (kOf (wo K V key n)) key (wo K V key n).length
  unfold ws
  simp only [List.length_append, lst_len, List.length_cons, List.length_nil]
  omega
theorem own_some {w : World} {base n rc : Nat} {ra : Option Addr} {m : Nat} {xs : List Value} (h : w.ownsRow base 45 2 (.slice ra n rc) m xs) (hv : Value.slice ra n rc ≠ .slice none 0 0) : ∃ b off, ra = some ⟨b, off, none⟩ := by
  obtain ⟨-, ⟨e, -⟩ | ⟨g, cap, cur, e, -⟩⟩ := h
  · exact absurd e hv
  · injection e with e1; exact ⟨g, 0, e1⟩
theorem own_not {w : World} {base : Nat} {v : Value} {m : Nat} {xs : List Value} (h : w.ownsRow base 45 2 v m xs) (hm : 0 < m) : v ≠ .slice none 0 0 := by
  intro e
  obtain ⟨-, ⟨-, h0⟩ | ⟨g, cap, cur, e2, -⟩⟩ := h
  · omega
  · rw [e] at e2; simp at e2
theorem ws_pos (K V : Nat → Int) (key val : Int) (n : Nat) : 0 < (Go.Proofs.Ytnhkjdcbaphfcaa.ws K V key val n).length := by simp [Go.Proofs.Ytnhkjdcbaphfcaa.ws]; omega
def CellsA (S : Nat) (a : Option Addr) (kk cap : Nat) (z : Nat → Int) (t : Nat) (w : World) (e : Ending) (w' : World) : Prop :=
  ∃ (v : Value) (L : List (Int × Int)) (t' : Nat), e = .returned v ∧ L.length ≤ 12 ∧ t' ≤ t + 30 ∧ Dl w w' S a kk cap z t' v L ∧ v ≠ .slice none 0 0 ∧ GoodC L.length (kOf L) (vOf L)
set_option maxHeartbeats 8000000 in
theorem l1Cells_any (S : Nat) (a : Option Addr) (kk cap : Nat) (z : Nat → Int) (t : Nat) (w : World) (ht : t ≤ 900000) (h : Src w S a kk cap z t) :
    Calls Try.prog 72 #[.pointer (some ⟨S, 0, none⟩)] w (CellsA S a kk cap z t w) := by
  have HS : Hid (Src w S a kk cap z t) := h
  clear h
  have HSl : Hid (S < w.heap.size) := HS.out.lt
  go_enter Try.func72, Try.ntmps72
  go_wp2_with fail
  obtain ⟨v, hv0⟩ : ∃ v : Value, v = .slice (some ⟨w.heap.size, 0, none⟩) 0 0 := ⟨_, rfl⟩
  obtain ⟨L, hL⟩ : ∃ L : List (Int × Int), L = [] := ⟨_, rfl⟩
  have HD : Hid (Dl w (w.alloc (.cells #[] 45)) S a kk cap z t v L) := by
    rw [hv0, hL]
    exact ⟨Writes.of_below (below_new _ _), HSl.out, HS.out.below (below_new _ _), cells_nil w⟩
  have HXL : Hid (L.length = 0) := by rw [hL]; rfl
  have HVN : Hid (v ≠ .slice none 0 0) := by rw [hv0]; intro e; simp at e
  rw [← hv0]
  clear hv0 hL
  generalize (w.alloc (.cells #[] 45)) = w0 at *
  refine (l1Next_any S a kk cap z t 6 _ (by omega) (by omega) HD.out.src).mono ?_
  rintro e w1 ⟨v1, rfl, hv, hn⟩
  have HV2 : Hid (NxA 6 v1) := hv
  replace HD : Hid (Dl w w1 S a kk cap z (t + 1) v L) := HD.out.dw hn.dw
  clear hn hv
  go_wp2_with fail
  refine (l1Next_any S a kk cap z (t + 1) 6 _ (by omega) (by omega) HD.out.src).mono ?_
  rintro e w2 ⟨v2, rfl, hv, hn⟩
  have HV3 : Hid (NxA 6 v2) := hv
  replace HD : Hid (Dl w w2 S a kk cap z (t + 2) v L) := HD.out.dw hn.dw
  clear hn hv
  go_wp2_with fail
  have hSl : S < w2.heap.size := HD.out.src.lt
  refine (l1Pick_any S a kk cap z (t + 2) w2.heap.size 0 3 3 (fun i => if i = 0 then v1 else if i = 1 then v2 else 12) _ (by omega) (by omega) (by omega) (by omega) (by simp [go_sem]) (fun i hi => ?_) (HD.out.src.below (below_new _ _))).mono ?_
  · rcases i with - | - | - | i
    · simp [go_sem]
    · simp [go_sem]
    · simp [go_sem]
    · omega
  rintro e w4 ⟨i, hi, rfl, hn⟩
  replace HD : Hid (Dl w w4 S a kk cap z (t + 3) v L) := (HD.out.up (below_new _ _)).dw hn.dw
  obtain ⟨m, hm12, hm⟩ : ∃ m : Nat, m ≤ 12 ∧ (if i = 0 then v1 else if i = 1 then v2 else 12) = (m : Int) := by
    obtain ⟨a2, b2, -⟩ := HV2.out
    obtain ⟨a3, b3, -⟩ := HV3.out
    have b2 := b2 (by omega)
    have b3 := b3 (by omega)
    by_cases e0 : i = 0
    · exact ⟨v1.toNat, by omega, by simp only [e0, if_true]; omega⟩
    · by_cases e1 : i = 1
      · exact ⟨v2.toNat, by omega, by simp only [e1]; simp; omega⟩
      · exact ⟨12, by omega, by simp only [e0, e1, if_false]; rfl⟩
  rw [hm]
  clear hn hm hi HV2 HV3 hSl
  go_wp2_with fail
  go_loopw [3, 4] (fun u k wr => ∃ (q : Nat) (M : List (Int × Int)) (t' : Nat), k = .int .i64 (q : Int) ∧ q ≤ 12 ∧ M.length ≤ 12 ∧ t' + 2 * q ≤ t + 27 ∧ Hid (Dl w wr S a kk cap z t' u M) ∧ Hid (u ≠ .slice none 0 0) ∧ Hid (GoodC M.length (kOf M) (vOf M))) (fun _ k _ => (intOf k).toNat)
  case atStart => exact ⟨m, L, t + 3, rfl, hm12, by have := HXL.out; omega, by omega, HD, HVN, by rw [HXL.out]; exact ⟨fun i hi => by omega, fun i hi => by omega, fun i j h1 h2 => by omega⟩⟩
  clear HD HXL HVN
  case round =>
    obtain ⟨q, M, t1, rfl, hq12, hM12, ht1, HD, HUN, HGC⟩ := hrel
    obtain ⟨ra, rc, rfl, hrc, hca⟩ := cells_shape HD.out.own
    have HCA : Hid (CellsAt wr ra M.length (kOf M) (vOf M)) := hca
    clear hca hrc
    by_cases hq0 : 0 < q
    · obtain ⟨q, rfl⟩ : ∃ p, q = p + 1 := ⟨q - 1, by omega⟩
      clear hq0
      have hqi : (0 : Int) < (q : Int) + 1 := by omega
      by_cases hl : M.length < 12
      · have hli : (M.length : Int) < 12 := by omega
        go_wp2_with fail
        refine (l1Next_any S a kk cap z t1 32 _ (by omega) (by omega) HD.out.src).mono ?_
        rintro e w1 ⟨a1, rfl, hv, hn⟩
        replace HD : Hid (Dl w w1 S a kk cap z (t1 + 1) (.slice ra M.length rc) M) := HD.out.dw hn.dw
        have HA1 : Hid (NxA 32 a1) := hv
        clear hn hv
        go_wp2_with fail
        refine (l1Next_any S a kk cap z (t1 + 1) 90 _ (by omega) (by omega) HD.out.src).mono ?_
        rintro e w2 ⟨a2, rfl, hv, hn⟩
        replace HD : Hid (Dl w w2 S a kk cap z (t1 + 2) (.slice ra M.length rc) M) := HD.out.dw hn.dw
        have HC2 : Hid (CellsAt w2 ra M.length (kOf M) (vOf M)) := by
          obtain ⟨ra', rc', e, -, h⟩ := cells_shape HD.out.own
          simp only [Value.slice.injEq, true_and] at e
          obtain ⟨rfl, rfl⟩ := e
          exact h
        have HA2 : Hid (NxA 90 a2) := hv
        clear hn hv HCA
        go_wp2_with fail
        refine (specWith_any M.length (kOf M) (vOf M) a1 a2 ra rc w2 (by omega) HC2.out).mono ?_
        rintro e w3 ⟨v3, rfl, hb3, ho3⟩
        have hlen := ws_len (kOf M) (vOf M) a1 a2 M.length
        have HD3 : Hid (Dl w w3 S a kk cap z (t1 + 2) v3 (Go.Proofs.Ytnhkjdcbaphfcaa.ws (kOf M) (vOf M) a1 a2 M.length)) := HD.out.fresh hb3 ho3
        have HN3 : Hid (v3 ≠ .slice none 0 0) := own_not ho3 (ws_pos _ _ _ _ _)
        have HG3 : Hid (GoodC (Go.Proofs.Ytnhkjdcbaphfcaa.ws (kOf M) (vOf M) a1 a2 M.length).length (kOf (Go.Proofs.Ytnhkjdcbaphfcaa.ws (kOf M) (vOf M) a1 a2 M.length)) (vOf (Go.Proofs.Ytnhkjdcbaphfcaa.ws (kOf M) (vOf M) a1 a2 M.length))) := by
          rw [ws_eq HGC.out.rise]
          obtain ⟨p1, p2, -⟩ := HA1.out
          obtain ⟨p3, p4, -⟩ := HA2.out
          have p2 := p2 (by omega)
          have p4 := p4 (by omega)
          exact wi_good HGC.out ⟨p1, by omega⟩ ⟨p3, by omega⟩
        clear hb3 ho3 HD HC2 HA1 HA2 HGC HUN
        generalize Go.Proofs.Ytnhkjdcbaphfcaa.ws (kOf M) (vOf M) a1 a2 M.length = M2 at *
        go_wp2_with fail
        go_roundw
        case rel => exact ⟨q, M2, t1 + 2, by go_num, by omega, by omega, by omega, HD3, HN3, HG3⟩
        case measure => first | (simp [intOf]; done) | (simp [intOf]; omega)
      · have hli : ¬ ((M.length : Int) < 12) := by omega
        clear HCA
        go_wp2_with fail
        go_roundw
        case rel => exact ⟨q, M, t1, by go_num, by omega, by omega, by omega, HD, HUN, HGC⟩
        case measure => first | (simp [intOf]; done) | (simp [intOf]; omega)
    · have hqz : q = 0 := by omega
      subst hqz
      clear HCA
      go_wp2_with fail
      go_ret
      exact ⟨_, M, t1, rfl, by omega, by omega, HD.out, HUN.out, HGC.out⟩
/-- A page's box. -/
def BxP (w : World) (B : Nat) (c0 c1 c2 : Value) : Prop := w.cell? ⟨B, 0, none⟩ = some c0 ∧ w.cell? ⟨B, 1, none⟩ = some c1 ∧ w.cell? ⟨B, 2, none⟩ = some c2 ∧ ∀ i, w.frozen? ⟨B, i, none⟩ = false
theorem BxP.block {w w' : World} {B : Nat} {c0 c1 c2 : Value} (h : BxP w B c0 c1 c2) (e : w'.heap[B]? = w.heap[B]?) : BxP w' B c0 c1 c2 :=
  ⟨(World.cell?_of_block (w := w) (a := ⟨B, 0, none⟩) e).trans h.1, (World.cell?_of_block (w := w) (a := ⟨B, 1, none⟩) e).trans h.2.1, (World.cell?_of_block (w := w) (a := ⟨B, 2, none⟩) e).trans h.2.2.1, fun i => (World.frozen?_of_block (w := w) (a := ⟨B, i, none⟩) e).trans (h.2.2.2 i)⟩
theorem BxP.lt {w : World} {B : Nat} {c0 c1 c2 : Value} (h : BxP w B c0 c1 c2) : B < w.heap.size := Go.block_lt_of_cell h.1
theorem BxP.dw {wr w2 : World} {S : Nat} {a : Option Addr} {kk cap : Nat} {z : Nat → Int} {t B : Nat} {c0 c1 c2 : Value} (h : BxP wr B c0 c1 c2) (hb : B ≠ S) (d : Dw S a kk cap z t wr w2) : BxP w2 B c0 c1 c2 := h.block (d.1.block B h.lt (by omega))
theorem BxP.below {w w' : World} {B : Nat} {c0 c1 c2 : Value} (h : BxP w B c0 c1 c2) (hb : Below w.heap.size w w') : BxP w' B c0 c1 c2 := h.block (hb.block B h.lt)
theorem BxP.new (w : World) (c0 c1 c2 : Value) (T : TypeId) : BxP (w.alloc (.cells #[c0, c1, c2] T)) w.heap.size c0 c1 c2 := by simp [BxP, go_sem]
def PageA (S : Nat) (a : Option Addr) (kk cap : Nat) (z : Nat → Int) (t : Nat) (w : World) (e : Ending) (w' : World) : Prop :=
  ∃ (id ls : Int) (v : Value) (L : List (Int × Int)) (t' : Nat), e = .returned (.agg #[.int .i64 id, .int .i64 ls, v]) ∧ L.length ≤ 12 ∧ t' ≤ t + 40 ∧ Dl w w' S a kk cap z t' v L ∧ v ≠ .slice none 0 0 ∧ GoodP id ls L.length (kOf L) (vOf L)
set_option maxHeartbeats 8000000 in
theorem l1Page_any (S : Nat) (a : Option Addr) (kk cap : Nat) (z : Nat → Int) (t : Nat) (w : World) (ht : t ≤ 800000) (h : Src w S a kk cap z t) :
    Calls Try.prog 63 #[.pointer (some ⟨S, 0, none⟩)] w (PageA S a kk cap z t w) := by
  have HS : Hid (Src w S a kk cap z t) := h
  have HSl : Hid (S < w.heap.size) := h.lt
  clear h
  go_enter Try.func63, Try.ntmps63
  go_wp2_with fail
  have HD : Hid (Dw S a kk cap z t w (w.alloc (.cells #[.int .i64 0, .int .i64 0, .slice none 0 0] 27))) := HS.out.self.below (below_new _ _)
  have BX := BxP.new w (.int .i64 0) (.int .i64 0) (.slice none 0 0) 27
  obtain ⟨B, hB⟩ : ∃ B, B = w.heap.size := ⟨_, rfl⟩
  have HBw : Hid (w.heap.size ≤ B) := by show w.heap.size ≤ B; omega
  have HBS : Hid (B ≠ S) := by show B ≠ S; have := HSl.out; omega
  rw [← hB] at BX ⊢
  generalize (w.alloc (.cells #[.int .i64 0, .int .i64 0, .slice none 0 0] 27)) = w0 at *
  clear hB HS
  refine (l1Next_any S a kk cap z t 8 _ (by omega) (by omega) HD.out.src).mono ?_
  rintro e w1 ⟨v1, rfl, hv1, hn⟩
  have HV1 : Hid (NxA 8 v1) := hv1
  clear hv1
  replace BX := BX.dw HBS.out hn.dw
  replace HD : Hid (Dw S a kk cap z (t + 1) w w1) := HD.out.trans hn.dw
  clear hn
  go_wp2_with fail
  refine (l1Next_any S a kk cap z (t + 1) 90 _ (by omega) (by omega) HD.out.src).mono ?_
  rintro e w2 ⟨v2, rfl, hv2, hn⟩
  have HV2 : Hid (NxA 90 v2) := hv2
  clear hv2
  replace BX := BX.dw HBS.out hn.dw
  replace HD : Hid (Dw S a kk cap z (t + 2) w w2) := HD.out.trans hn.dw
  clear hn
  go_wp2_with fail
  refine (l1Cells_any S a kk cap z (t + 2) w2 (by omega) HD.out.src).mono ?_
  rintro e w3 ⟨v, L, t3, rfl, hL, ht3, hd, hvn, hgc⟩
  have HG : Hid (GoodP v1 v2 L.length (kOf L) (vOf L)) := by
    obtain ⟨p1, p2, -⟩ := HV1.out
    obtain ⟨p3, p4, -⟩ := HV2.out
    have p2 := p2 (by omega)
    have p4 := p4 (by omega)
    exact ⟨inB_iff.2 ⟨p1, by omega⟩, inB_iff.2 ⟨p3, by omega⟩, hL, hgc.key, hgc.val, hgc.rise⟩
  have HVN : Hid (v ≠ .slice none 0 0) := hvn
  clear hvn hgc HV1 HV2
  have hBl := BX.lt
  have hne : v.ownBlock ≠ some B := fun e => by have := (hd.own.lt B e).1; omega
  have HF : Hid (∀ u0 u1 u2 : Value, Dl w (((w3.setCell ⟨B, 0, none⟩ u0).setCell ⟨B, 1, none⟩ u1).setCell ⟨B, 2, none⟩ u2) S a kk cap z t3 v L) := fun u0 u1 u2 => (((Dl.from HD.out HSl.out hd).set HBw.out hne 0 u0).set HBw.out hne 1 u1).set HBw.out hne 2 u2
  obtain ⟨ra, rc, rfl, -, -⟩ := cells_shape hd.own
  replace BX : BxP w3 B (.int .i64 0) (.int .i64 0) (.slice none 0 0) := BX.block (hd.ws.block B hBl (by have := HBS.out; omega))
  obtain ⟨q0, q1, q2, qf⟩ := BX
  clear hd hne hBl HD
  go_wp2_with fail
  exact bodyPost_ret (v := .agg #[.int .i64 v1, .int .i64 v2, .slice ra L.length rc]) (by simp [results, Try.results63, go_sem, *]) rfl ⟨v1, v2, _, L, t3, rfl, hL, by omega, HF.out _ _ _, HVN.out, HG.out⟩
end Go.Proofs.Ytnhkjdcbaphfcaa
