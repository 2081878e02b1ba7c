/- impl.takeBack: an undo is taken back. -/
import Derived.Test.YtabkgncnanlapaaGreatQRqa
import Derived.Test.YtabkgncnanlapaaGreatQRqb
import Derived.Test.YtabkgncnanlapaaGreatQRla
import Derived.Test.YtabkgncnanlapaaGreatQGi
import Derived.Test.YtabkgncnanlapaaGreatQWae
import Derived.RangeFuncBox
namespace Go.Proofs.YtabkgncnanlapaaGreat
open Go.RowKit Go.Deep
set_option linter.unusedVariables false
set_option linter.unusedSimpArgs false
set_option maxRecDepth 20000

theorem ko_below {w w' : World} (h : Below w.heap.size w w') : KeepsOthers w w' :=
  ⟨h.size, fun k o hk _ => by rw [h.block k (Array.getElem?_eq_some_iff.1 hk).1]; exact hk⟩
theorem drew1 (w : World) : Below w.heap.size w w.drew := (Below.refl _ _).drew
theorem ko_set4 (w : World) (b o : Nat) (v : Vr) : KeepsOthers w (set4 w b o v) :=
  (((KeepsOthers.setCell _ _ _).trans (KeepsOthers.setCell _ _ _)).trans (KeepsOthers.setCell _ _ _)).trans (KeepsOthers.setCell _ _ _)
/-- What takeBack leaves. -/
def TbR (W : World) (B : Nat) (nx ck : Int) (tsl : Value) (M : Nat) (l : List HRw) (x0 : HRw) (r : List HRw) (id : Int) (u : Ud) (w : World) (e : Ending) (w' : World) : Prop :=
  e = .returned (.tuple #[]) ∧ KeepsOthers w w' ∧ ∃ ra rc q y, y.t = tkR id u x0.t ∧ RpI W w' B nx ck tsl M ra rc q (l ++ (if y.t.n = 0 then [] else [y]) ++ r)
theorem RpI.chain {W wr : World} {B : Nat} {nx ck : Int} {tsl : Value} {M : Nat} {ra : Option Addr} {rc q : Nat} {l r : List HRw} {x0 : HRw} (h : RpI W wr B nx ck tsl M ra rc q (l ++ x0 :: r)) : ∃ g off, ra = some ⟨g, off, none⟩ ∧ g < wr.heap.size ∧ CRw wr g (off + l.length * 2) x0.t x0.A x0.c ∧ VersAt wr x0.A x0.t.n x0.t.U ∧ x0.t.n ≤ x0.c ∧ l.length < q ∧ (∀ i, wr.frozen? ⟨g, i, none⟩ = false) := by
  have hx := h.ct x0 (List.mem_of_getElem? (at_mid l r x0))
  have hl := h.len
  rw [List.length_append, List.length_cons] at hl
  rcases h.hd with h1 | ⟨g, off, e, hl2, g1, g2, g3, hc⟩
  · simp at h1
  · exact ⟨g, off, e, hl2, hc _ _ (at_mid l r x0), hx.2.2.at, hx.2.1, by omega, g2⟩
theorem RpI.pieces {W wr : World} {B : Nat} {nx ck : Int} {tsl : Value} {M : Nat} {g off : Nat} {rc q : Nat} {l r : List HRw} {x0 : HRw} (h : RpI W wr B nx ck tsl M (some ⟨g, off, none⟩) rc q (l ++ x0 :: r)) : HAtRw wr (some ⟨g, off, none⟩) l ∧ HAtRw wr (some ⟨g, off + (l.length + 1) * 2, none⟩) r := by
  rcases h.hd with h1 | ⟨g', off', e, hl2, g1, g2, g3, hc⟩
  · simp at h1
  · simp only [Option.some.injEq, Addr.mk.injEq, and_true] at e
    obtain ⟨rfl, rfl⟩ := e
    refine ⟨.inr ⟨g, off, rfl, hl2, fun i x hi => hc i x ?_⟩, .inr ⟨g, _, rfl, hl2, fun i x hi => ?_⟩⟩
    · rw [List.getElem?_append_left (List.getElem?_eq_some_iff.1 hi).1]; exact hi
    · have := hc (l.length + 1 + i) x (by rw [List.getElem?_append_right (by omega), show l.length + 1 + i - l.length = i + 1 by omega, List.getElem?_cons_succ]; exact hi)
      rw [show off + (l.length + 1) * 2 + i * 2 = off + (l.length + 1 + i) * 2 by omega]
      exact this
theorem vers_tail {w : World} {b off n : Nat} {R : Nat → Vr} (h : VersAt w (some ⟨b, off, none⟩) n R) : VersAt w (some ⟨b, off + 4, none⟩) (n - 1) (fun i => R (i + 1)) := by
  rcases h with h | ⟨b1, o1, e, hl, hc⟩
  · exact .inl (by omega)
  · simp only [Option.some.injEq, Addr.mk.injEq, and_true] at e
    obtain ⟨rfl, rfl⟩ := e
    refine .inr ⟨b, off + 4, rfl, hl, fun i hi => ?_⟩
    rw [show off + 4 + i * 4 = off + (i + 1) * 4 by omega]
    exact hc (i + 1) (by omega)
set_option maxHeartbeats 8000000 in
theorem takeBack_any (W : World) (B : Nat) (nx ck : Int) (tsl : Value) (M : Nat) (ra : Option Addr) (rc q : Nat) (l : List HRw) (x0 : HRw) (r : List HRw) (id : Int) (u : Ud) (w : World) (h : RpI W w B nx ck tsl M ra rc q (l ++ x0 :: r)) (hk : x0.t.key = u.k) (hn : 0 < x0.t.n) (hn12 : x0.t.n ≤ 12) (hq : q ≤ 32)
    (hs : ∀ j, j < q → ∀ i, i < j → (((l ++ x0 :: r).map HRw.t).getD i zRw).key < (((l ++ x0 :: r).map HRw.t).getD j zRw).key) (hf : fR q (fun i => ((l ++ x0 :: r).map HRw.t).getD i zRw) u.k = (l.length : Int)) :
    Calls Tryz.prog 59 #[.pointer (some ⟨B, 0, none⟩), .int .i64 id, .agg #[.int .i64 u.k, .bool u.h, .bool u.g, .int .i64 u.v]] w (TbR W B nx ck tsl M l x0 r id u w) := by
  have HR : Hid (RpI W w B nx ck tsl M ra rc q (l ++ x0 :: r)) := h
  have HK : Hid (x0.t.key = u.k) := hk
  have HS : Hid (∀ j, j < q → ∀ i, i < j → (((l ++ x0 :: r).map HRw.t).getD i zRw).key < (((l ++ x0 :: r).map HRw.t).getD j zRw).key) := hs
  have HF : Hid (fR q (fun i => ((l ++ x0 :: r).map HRw.t).getD i zRw) u.k = (l.length : Int)) := hf
  have hmo : Tryz.prog.follows .mixedOrders = true := by kernel_rfl
  have hqm : q ≤ 1048576 := by omega
  have hll : l.length < q := by obtain ⟨g, off, -, -, -, -, -, e, -⟩ := h.chain; exact e
  have hBW : B < w.heap.size := Go.block_lt_of_cell h.box.1
  clear h hk hs hf
  go_enter Tryz.func59, Tryz.ntmps59
  go_upto_region 1 with fail
  have X0 := Box4.new w (.int .i64 u.k) (.bool u.h) (.bool u.g) (.int .i64 u.v) 90
  have R0 : Hid (RpI W (w.alloc (.cells #[.int .i64 u.k, .bool u.h, .bool u.g, .int .i64 u.v] 90)) B nx ck tsl M ra rc q (l ++ x0 :: r)) := HR.out.below (below_new _ _)
  have HB0 : Hid (Below w.heap.size w (w.alloc (.cells #[.int .i64 u.k, .bool u.h, .bool u.g, .int .i64 u.v] 90))) := below_new _ _
  obtain ⟨X, hX⟩ : ∃ X, X = w.heap.size := ⟨_, rfl⟩
  rw [← hX] at X0 ⊢
  generalize (w.alloc (.cells #[.int .i64 u.k, .bool u.h, .bool u.g, .int .i64 u.v] 90)) = w0 at *
  have HX : Hid (X = w.heap.size) := hX
  clear HR hX
  refine wp_region_E 999 (S := fun u1 => Below w.heap.size w u1 ∧ RpI W u1 B nx ck tsl M ra rc q (l ++ x0 :: r) ∧ Box4 u1 X (.int .i64 u.k) (.bool u.h) (.bool u.g) (.int .i64 u.v)) hmo ⟨HB0.out.drew, R0.out.below (Below.refl _ _).drew, X0.below (Below.refl _ _).drew⟩ (fun hS => ?_)
  refine wpAnyE_takeD (L := 999) (i := 0) (v := .pointer (some ⟨B, 0, none⟩)) (some 10) rfl rfl (by kernel_rfl) (by kernel_rfl) (by kernel_rfl) (by kernel_rfl) (fun _ _ _ h => h) (Or.inl ⟨by kernel_rfl, by intro u hSu; obtain ⟨-, ⟨-, ⟨b0, b1, b2, b3⟩, -, -, -, -, -, -, -, -, -⟩, x0, x1, x2, x3⟩ := hSu; go_simp⟩) hS ?_
  try simp only [Act.put, List.setIfInBounds_toArray, List.set_cons_zero, List.set_cons_succ]
  refine wpAnyE_takeD (L := 999) (i := 1) (v := .pointer (some ⟨B, 0, none⟩)) (some 11) rfl rfl (by kernel_rfl) (by kernel_rfl) (by kernel_rfl) (by kernel_rfl) (fun _ _ _ h => h) (Or.inl ⟨by kernel_rfl, by intro u hSu; obtain ⟨-, ⟨-, ⟨b0, b1, b2, b3⟩, -, -, -, -, -, -, -, -, -⟩, x0, x1, x2, x3⟩ := hSu; go_simp⟩) hS ?_
  try simp only [Act.put, List.setIfInBounds_toArray, List.set_cons_zero, List.set_cons_succ]
  refine wpAnyE_takeD (L := 999) (i := 2) (v := .pointer (some ⟨B, 3, none⟩)) (some 12) rfl rfl (by kernel_rfl) (by kernel_rfl) (by kernel_rfl) (by kernel_rfl) (fun _ _ _ h => h) (Or.inl ⟨by kernel_rfl, by intro u hSu; obtain ⟨-, ⟨-, ⟨b0, b1, b2, b3⟩, -, -, -, -, -, -, -, -, -⟩, x0, x1, x2, x3⟩ := hSu; go_simp⟩) hS ?_
  try simp only [Act.put, List.setIfInBounds_toArray, List.set_cons_zero, List.set_cons_succ]
  refine wpAnyE_takeD (L := 999) (i := 3) (v := .slice ra q rc) (some 13) rfl rfl (by kernel_rfl) (by kernel_rfl) (by kernel_rfl) (by kernel_rfl) (fun _ _ _ h => h) (Or.inl ⟨by kernel_rfl, by intro u hSu; obtain ⟨-, ⟨-, ⟨b0, b1, b2, b3⟩, -, -, -, -, -, -, -, -, -⟩, x0, x1, x2, x3⟩ := hSu; go_simp⟩) hS ?_
  try simp only [Act.put, List.setIfInBounds_toArray, List.set_cons_zero, List.set_cons_succ]
  refine wpAnyE_takeD (L := 999) (i := 4) (v := .pointer (some ⟨X, 0, none⟩)) (some 14) rfl rfl (by kernel_rfl) (by kernel_rfl) (by kernel_rfl) (by kernel_rfl) (fun _ _ _ h => h) (Or.inl ⟨by kernel_rfl, by intro u hSu; obtain ⟨-, ⟨-, ⟨b0, b1, b2, b3⟩, -, -, -, -, -, -, -, -, -⟩, x0, x1, x2, x3⟩ := hSu; go_simp⟩) hS ?_
  try simp only [Act.put, List.setIfInBounds_toArray, List.set_cons_zero, List.set_cons_succ]
  refine wpAnyE_takeD (L := 999) (i := 5) (v := .int .i64 u.k) (some 15) rfl rfl (by kernel_rfl) (by kernel_rfl) (by kernel_rfl) (by kernel_rfl) (fun _ _ _ h => h) (Or.inl ⟨by kernel_rfl, by intro u hSu; obtain ⟨-, ⟨-, ⟨b0, b1, b2, b3⟩, -, -, -, -, -, -, -, -, -⟩, x0, x1, x2, x3⟩ := hSu; go_simp⟩) hS ?_
  try simp only [Act.put, List.setIfInBounds_toArray, List.set_cons_zero, List.set_cons_succ]
  refine wpAnyE_ready (rs := [6]) (by kernel_rfl) (by simp) ?_
  refine AllReadyE.cons rfl (fun K9 hK => ?_) AllReadyE.nil
  go_simp
  refine (placeOfRow_any q (fun i => ((l ++ x0 :: r).map HRw.t).getD i zRw) ra rc u.k _ hqm HS.out hS.2.1.rows).mono ?_
  rintro e w1 ⟨pp, rfl, hpl, hb1⟩
  obtain ⟨hpf, hpe⟩ : plF q (fun i => ((l ++ x0 :: r).map HRw.t).getD i zRw) u.k pp = true ∧ pp = l.length := by
    rcases pl_fR HS.out hpl with ⟨_, e⟩ | ⟨e1, _, e2⟩
    · rw [HF.out] at e; omega
    · rw [HF.out] at e2; exact ⟨e1, by omega⟩
  rw [hpf, hpe]
  clear hpf hpe hpl
  refine hK.out _ _ (⟨below_then hS.1 hb1, hS.2.1.below hb1, hS.2.2.below hb1⟩) (fun hS9 => ?_)
  try simp only [Act.put, List.setIfInBounds_toArray, List.set_cons_zero, List.set_cons_succ]
  clear hK K9 hS
  have hS := hS9
  clear hS9
  clear hb1
  refine wpAnyE_takeD (L := 999) (i := 7) (v := .tuple #[.int .i64 (l.length : Int), .bool true]) (some 9) rfl rfl (by kernel_rfl) (by kernel_rfl) (by kernel_rfl) (by kernel_rfl) (fun _ _ _ h => h) (Or.inl ⟨by kernel_rfl, by intro u hSu; go_simp⟩) hS ?_
  try simp only [Act.put, List.setIfInBounds_toArray, List.set_cons_zero, List.set_cons_succ]
  refine wpAnyE_takeD (L := 999) (i := 8) (v := .int .i64 (l.length : Int)) (some 17) rfl rfl (by kernel_rfl) (by kernel_rfl) (by kernel_rfl) (by kernel_rfl) (fun _ _ _ h => h) (Or.inl ⟨by kernel_rfl, by intro u hSu; go_simp⟩) hS ?_
  try simp only [Act.put, List.setIfInBounds_toArray, List.set_cons_zero, List.set_cons_succ]
  refine wpAnyE_takeD (L := 999) (i := 9) (v := .bool true) (some 18) rfl rfl (by kernel_rfl) (by kernel_rfl) (by kernel_rfl) (by kernel_rfl) (fun _ _ _ h => h) (Or.inl ⟨by kernel_rfl, by intro u hSu; go_simp⟩) hS ?_
  try simp only [Act.put, List.setIfInBounds_toArray, List.set_cons_zero, List.set_cons_succ]
  refine wpAnyE_takeD (L := 999) (i := 10) (v := .int .i64 (l.length : Int)) (some 6) rfl rfl (by kernel_rfl) (by kernel_rfl) (by kernel_rfl) (by kernel_rfl) (fun _ _ _ h => h) (Or.inl ⟨by kernel_rfl, by intro u hSu; go_simp⟩) hS ?_
  try simp only [Act.put, List.setIfInBounds_toArray, List.set_cons_zero, List.set_cons_succ]
  refine wpAnyE_takeD (L := 999) (i := 11) (v := .bool true) (some 7) rfl rfl (by kernel_rfl) (by kernel_rfl) (by kernel_rfl) (by kernel_rfl) (fun _ _ _ h => h) (Or.inl ⟨by kernel_rfl, by intro u hSu; go_simp⟩) hS ?_
  try simp only [Act.put, List.setIfInBounds_toArray, List.set_cons_zero, List.set_cons_succ]
  have HS9 := hS
  refine wpAnyE_done (by kernel_rfl) ?_ _
  go_simp
  obtain ⟨hB1, hR1, hX1⟩ := HS9
  have HB1 : Hid (Below w.heap.size w w1) := hB1
  have R1 : Hid (RpI W w1 B nx ck tsl M ra rc q (l ++ x0 :: r)) := hR1
  have HX1 : Hid (Box4 w1 X (.int .i64 u.k) (.bool u.h) (.bool u.g) (.int .i64 u.v)) := hX1
  have hxw : X < w1.heap.size := hX1.lt
  obtain ⟨g, off, rfl, hgl, hCR, hVR, hnc, -, hgf⟩ := hR1.chain
  obtain ⟨b0, b1, b2, b3⟩ := hR1.box
  obtain ⟨c0, c1⟩ := hCR
  obtain ⟨y0, y1, y2, y3⟩ := hX1
  have hl1 : (l.length : Int) < (q : Int) := by omega
  have hl0 : (0 : Int) ≤ (l.length : Int) := by omega
  clear hR1 hB1 HS HF X0 R0 HB0
  cases hu : u.h with
  | true =>
    rw [hu] at y1
    obtain ⟨cb, co, eA, hcb, hC4, hcf, hRS⟩ := R1.out.setV hn ⟨id, 0, u.g, u.v⟩
    rw [eA] at c1
    obtain ⟨v0, v1, v2, v3⟩ := hC4
    have hKO : KeepsOthers w1 (set4 w1 cb co ⟨id, 0, u.g, u.v⟩).drew := (ko_set4 _ _ _ _).trans (ko_below (drew1 _))
    have HRS : Hid (RpI W (set4 w1 cb co ⟨id, 0, u.g, u.v⟩).drew B nx ck tsl M (some ⟨g, off, none⟩) rc q (l ++ ⟨⟨x0.t.key, x0.t.n, fun i => if i = 0 then ⟨id, 0, u.g, u.v⟩ else x0.t.U i⟩, x0.A, x0.c, x0.l, x0.h⟩ :: r)) := hRS.below (drew1 _)
    have HKO : Hid (KeepsOthers w1 (set4 w1 cb co ⟨id, 0, u.g, u.v⟩).drew) := hKO
    have hn1 : (0 : Int) < (x0.t.n : Int) := by omega
    clear hRS hKO
    unfold set4 at HRS HKO
    go_upto_region 4 with fail
    refine wp_region_E 11 (S := fun u1 => Below w1.heap.size w1 u1) hmo (Below.refl _ _).drew (fun hS => ?_)
    refine wpAnyE_takeD (L := 11) (i := 0) (v := .pointer (some ⟨g, off + l.length * 2, none⟩)) (some 27) rfl rfl (by kernel_rfl) (by kernel_rfl) (by kernel_rfl) (by kernel_rfl) (fun _ _ _ h => h) (Or.inl ⟨by kernel_rfl, by intro u hSu; have b0 := cell_below b0 hSu; have b3 := cell_below b3 hSu; have c1 := cell_below c1 hSu; have y2 := cell_below y2 hSu; have y3 := cell_below y3 hSu; go_simp⟩) hS ?_
    try simp only [Act.put, List.setIfInBounds_toArray, List.set_cons_zero, List.set_cons_succ]
    refine wpAnyE_takeD (L := 11) (i := 1) (v := .pointer (some ⟨g, off + l.length * 2, none⟩)) (some 28) rfl rfl (by kernel_rfl) (by kernel_rfl) (by kernel_rfl) (by kernel_rfl) (fun _ _ _ h => h) (Or.inl ⟨by kernel_rfl, by intro u hSu; have b0 := cell_below b0 hSu; have b3 := cell_below b3 hSu; have c1 := cell_below c1 hSu; have y2 := cell_below y2 hSu; have y3 := cell_below y3 hSu; go_simp⟩) hS ?_
    try simp only [Act.put, List.setIfInBounds_toArray, List.set_cons_zero, List.set_cons_succ]
    refine wpAnyE_takeD (L := 11) (i := 2) (v := .pointer (some ⟨g, off + l.length * 2 + 1, none⟩)) (some 29) rfl rfl (by kernel_rfl) (by kernel_rfl) (by kernel_rfl) (by kernel_rfl) (fun _ _ _ h => h) (Or.inl ⟨by kernel_rfl, by intro u hSu; have b0 := cell_below b0 hSu; have b3 := cell_below b3 hSu; have c1 := cell_below c1 hSu; have y2 := cell_below y2 hSu; have y3 := cell_below y3 hSu; go_simp⟩) hS ?_
    try simp only [Act.put, List.setIfInBounds_toArray, List.set_cons_zero, List.set_cons_succ]
    refine wpAnyE_takeD (L := 11) (i := 3) (v := .slice (some ⟨cb, co, none⟩) x0.t.n x0.c) (some 30) rfl rfl (by kernel_rfl) (by kernel_rfl) (by kernel_rfl) (by kernel_rfl) (fun _ _ _ h => h) (Or.inl ⟨by kernel_rfl, by intro u hSu; have b0 := cell_below b0 hSu; have b3 := cell_below b3 hSu; have c1 := cell_below c1 hSu; have y2 := cell_below y2 hSu; have y3 := cell_below y3 hSu; go_simp⟩) hS ?_
    try simp only [Act.put, List.setIfInBounds_toArray, List.set_cons_zero, List.set_cons_succ]
    refine wpAnyE_takeD (L := 11) (i := 4) (v := .int .i64 id) (some 31) rfl rfl (by kernel_rfl) (by kernel_rfl) (by kernel_rfl) (by kernel_rfl) (fun _ _ _ h => h) (Or.inl ⟨by kernel_rfl, by intro u hSu; have b0 := cell_below b0 hSu; have b3 := cell_below b3 hSu; have c1 := cell_below c1 hSu; have y2 := cell_below y2 hSu; have y3 := cell_below y3 hSu; go_simp⟩) hS ?_
    try simp only [Act.put, List.setIfInBounds_toArray, List.set_cons_zero, List.set_cons_succ]
    refine wpAnyE_takeD (L := 11) (i := 5) (v := .pointer (some ⟨X, 2, none⟩)) (some 32) rfl rfl (by kernel_rfl) (by kernel_rfl) (by kernel_rfl) (by kernel_rfl) (fun _ _ _ h => h) (Or.inl ⟨by kernel_rfl, by intro u hSu; have b0 := cell_below b0 hSu; have b3 := cell_below b3 hSu; have c1 := cell_below c1 hSu; have y2 := cell_below y2 hSu; have y3 := cell_below y3 hSu; go_simp⟩) hS ?_
    try simp only [Act.put, List.setIfInBounds_toArray, List.set_cons_zero, List.set_cons_succ]
    refine wpAnyE_takeD (L := 11) (i := 6) (v := .bool u.g) (some 33) rfl rfl (by kernel_rfl) (by kernel_rfl) (by kernel_rfl) (by kernel_rfl) (fun _ _ _ h => h) (Or.inl ⟨by kernel_rfl, by intro u hSu; have b0 := cell_below b0 hSu; have b3 := cell_below b3 hSu; have c1 := cell_below c1 hSu; have y2 := cell_below y2 hSu; have y3 := cell_below y3 hSu; go_simp⟩) hS ?_
    try simp only [Act.put, List.setIfInBounds_toArray, List.set_cons_zero, List.set_cons_succ]
    refine wpAnyE_takeD (L := 11) (i := 7) (v := .pointer (some ⟨X, 3, none⟩)) (some 34) rfl rfl (by kernel_rfl) (by kernel_rfl) (by kernel_rfl) (by kernel_rfl) (fun _ _ _ h => h) (Or.inl ⟨by kernel_rfl, by intro u hSu; have b0 := cell_below b0 hSu; have b3 := cell_below b3 hSu; have c1 := cell_below c1 hSu; have y2 := cell_below y2 hSu; have y3 := cell_below y3 hSu; go_simp⟩) hS ?_
    try simp only [Act.put, List.setIfInBounds_toArray, List.set_cons_zero, List.set_cons_succ]
    refine wpAnyE_takeD (L := 11) (i := 8) (v := .int .i64 u.v) (some 35) rfl rfl (by kernel_rfl) (by kernel_rfl) (by kernel_rfl) (by kernel_rfl) (fun _ _ _ h => h) (Or.inl ⟨by kernel_rfl, by intro u hSu; have b0 := cell_below b0 hSu; have b3 := cell_below b3 hSu; have c1 := cell_below c1 hSu; have y2 := cell_below y2 hSu; have y3 := cell_below y3 hSu; go_simp⟩) hS ?_
    try simp only [Act.put, List.setIfInBounds_toArray, List.set_cons_zero, List.set_cons_succ]
    refine wpAnyE_takeD (L := 11) (i := 9) (v := .agg #[.int .i64 id, .int .i64 0, .bool u.g, .int .i64 u.v]) (some 36) rfl rfl (by kernel_rfl) (by kernel_rfl) (by kernel_rfl) (by kernel_rfl) (fun _ _ _ h => h) (Or.inl ⟨by kernel_rfl, by intro u hSu; have b0 := cell_below b0 hSu; have b3 := cell_below b3 hSu; have c1 := cell_below c1 hSu; have y2 := cell_below y2 hSu; have y3 := cell_below y3 hSu; go_simp⟩) hS ?_
    try simp only [Act.put, List.setIfInBounds_toArray, List.set_cons_zero, List.set_cons_succ]
    refine wpAnyE_takeD (L := 11) (i := 10) (v := .pointer (some ⟨cb, co, none⟩)) (some 37) rfl rfl (by kernel_rfl) (by kernel_rfl) (by kernel_rfl) (by kernel_rfl) (fun _ _ _ h => h) (Or.inl ⟨by kernel_rfl, by intro u hSu; have b0 := cell_below b0 hSu; have b3 := cell_below b3 hSu; have c1 := cell_below c1 hSu; have y2 := cell_below y2 hSu; have y3 := cell_below y3 hSu; go_simp⟩) hS ?_
    try simp only [Act.put, List.setIfInBounds_toArray, List.set_cons_zero, List.set_cons_succ]
    refine wpAnyE_ready (rs := [11]) (by kernel_rfl) (by simp) ?_
    refine AllReadyE.last rfl (fun K9 hK => ?_)
    go_simp
    refine hK.out _ _ ?_
    try simp only [Act.put, List.setIfInBounds_toArray, List.set_cons_zero, List.set_cons_succ]
    clear hK K9 hS
    refine wpAnyE_done (by kernel_rfl) ?_ _
    go_simp
    go_wp2_with fail
    refine bodyPost_ret (results_none rfl _ _ _) rfl ?_
    refine ⟨rfl, (ko_below HB1.out).trans HKO.out, some ⟨g, off, none⟩, rc, q, ⟨⟨x0.t.key, x0.t.n, fun i => if i = 0 then ⟨id, 0, u.g, u.v⟩ else x0.t.U i⟩, x0.A, x0.c, x0.l, x0.h⟩, by unfold tkR; rw [hu, if_pos rfl], ?_⟩
    rw [if_neg (by show ¬ x0.t.n = 0; omega), List.append_assoc]
    exact HRS.out
  | false =>
    rw [hu] at y1
    obtain ⟨cb, co, eA⟩ : ∃ cb co, x0.A = some ⟨cb, co, none⟩ := by
      rcases hVR with h | ⟨cb, co, e, -⟩
      · omega
      · exact ⟨cb, co, e⟩
    rw [eA] at c1 hVR
    have hc0 : 0 < x0.c := by omega
    have hc1 : (1 : Int) ≤ (x0.t.n : Int) := by omega
    have hc2 : (x0.t.n : Int) ≤ (x0.c : Int) := by omega
    have HVT : Hid (∀ w2 a2, Below w1.heap.size w1 w2 → (a2 = some ⟨cb, co + 4, none⟩ ∨ x0.t.n = 1) → VersAt w2 a2 (x0.t.n - 1) (fun i => x0.t.U (i + 1))) := fun w2 a2 hb h => by
      rcases h with rfl | h
      · exact (vers_tail hVR).below hb
      · exact .inl (by omega)
    have HNC : Hid (x0.t.n ≤ x0.c) := hnc
    have HGF : Hid (∀ i, w1.frozen? ⟨g, i, none⟩ = false) := hgf
    clear hVR eA hgf
    by_cases hcap : x0.c = 1
    · have HN0 : Hid (x0.t.n = 1) := by have := HNC.out; show x0.t.n = 1; omega
      go_wp2_with fail
      refine (joined1_anyw (x0.t.n - 1) (fun i => x0.t.U (i + 1)) (some ⟨cb, co, none⟩) 0 w1.heap.size _ (by omega) (by simp) (HVT.out _ _ (below_new _ _) (.inr HN0.out))).mono ?_
      rintro e w2 ⟨A, cA, rfl, hb2, hOA, hnA⟩
      have hB2 : Below w1.heap.size w1 w2 := below_then (below_new _ _) hb2
      have hsz2 := hB2.size
      obtain ⟨g', off', eg, -, -, -, hRP⟩ := R1.out.setH hB2 A cA _ w2.heap.size (x0.t.n - 1) (fun i => x0.t.U (i + 1)) (by simp) (Nat.le_refl _) hnA hOA
      simp only [Option.some.injEq, Addr.mk.injEq, and_true] at eg
      obtain ⟨rfl, rfl⟩ := eg
      replace b0 := cell_below b0 hB2
      replace b3 := cell_below b3 hB2
      replace c0 := cell_below c0 hB2
      replace c1 := cell_below c1 hB2
      have gf : ∀ i, w2.frozen? ⟨g, i, none⟩ = false := fun i => (World.frozen?_of_block (w := w1) (a := ⟨g, i, none⟩) (hB2.block g hgl)).trans (HGF.out i)
      have HRP : Hid (RpI W (w2.setCell ⟨g, off + l.length * 2 + 1, none⟩ (.slice A (x0.t.n - 1) cA)) B nx ck tsl M (some ⟨g, off, none⟩) rc q (l ++ ⟨⟨x0.t.key, x0.t.n - 1, fun i => x0.t.U (i + 1)⟩, A, cA, (w1.alloc (.cells #[.slice (some ⟨cb, co, none⟩) (x0.t.n - 1) 0] 85)).heap.size, w2.heap.size⟩ :: r)) := hRP
      have HB2 : Hid (Below w.heap.size w w2) := below_then HB1.out hB2
      clear hb2 hB2 hRP hOA y0 y1 y2 y3
      by_cases hz : x0.t.n = 1
      · have hzz : (((x0.t.n - 1 : Nat) : Int) == 0) = true := by simp; omega
        have HZ : Hid (x0.t.n = 1) := hz
        clear hz
        go_upto_region 7 with fail
        obtain ⟨W3, hW3⟩ : ∃ x, x = w2.setCell ⟨g, off + l.length * 2 + 1, none⟩ (.slice A (x0.t.n - 1) cA) := ⟨_, rfl⟩
        have hKO3 : Hid (KeepsOthers w W3) := (ko_below HB2.out).trans (by rw [hW3]; exact KeepsOthers.setCell _ _ _)
        rw [← hW3] at HRP ⊢
        clear hW3 gf c0 c1 b0 b1 b2 b3 hzz
        obtain ⟨b0, b1, b2, b3⟩ := HRP.out.box
        obtain ⟨hP1, hP2⟩ := HRP.out.pieces
        have hql := HRP.out.len
        have hqc := HRP.out.qc
        rw [List.length_append, List.length_cons] at hql
        have hi1 : (l.length : Int) ≤ (rc : Int) := by omega
        have hi2 : (l.length : Int) + 1 ≤ (q : Int) := by omega
        have hi3 : (q : Int) ≤ (rc : Int) := by omega
        have hi4 : (0 : Int) ≤ (l.length : Int) + 1 := by omega
        have hwl : IntKind.i64.wrap ((l.length : Int) + 1) = (l.length : Int) + 1 := by rw [IntKind.wrap_i64]; omega
        have htn : ((l.length : Int) + 1).toNat = l.length + 1 := by omega
        have HRL : Hid (r.length = q - (l.length + 1)) := by show r.length = q - (l.length + 1); omega
        have hi5 : ¬ ((l.length : Int) + 1 < (l.length : Int)) := by omega
        have HP1 : Hid (HAtRw W3 (some ⟨g, off, none⟩) l) := hP1
        have HP2 : Hid (HAtRw W3 (some ⟨g, off + (l.length + 1) * 2, none⟩) r) := hP2
        clear hP1 hP2
        by_cases hrc : rc = l.length + 1
        · have HP3 : Hid (HAtRw W3 (some ⟨g, off, none⟩) r) := .inl (List.eq_nil_of_length_eq_zero (by have := HRL.out; omega))
          clear HP2
          refine wp_region_E 18 (S := fun u1 => Below W3.heap.size W3 u1) hmo (drew1 _) (fun hS => ?_)
          refine wpAnyE_takeD (L := 18) (i := 0) (v := .pointer (some ⟨B, 0, none⟩)) (some 54) rfl rfl (by kernel_rfl) (by kernel_rfl) (by kernel_rfl) (by kernel_rfl) (fun _ _ _ h => h) (Or.inl ⟨by kernel_rfl, by intro u hSu; have b0 := cell_below b0 hSu; have b3 := cell_below b3 hSu; go_simp⟩) hS ?_
          try simp only [Act.put, List.setIfInBounds_toArray, List.set_cons_zero, List.set_cons_succ]
          refine wpAnyE_takeD (L := 18) (i := 1) (v := .pointer (some ⟨B, 0, none⟩)) (some 55) rfl rfl (by kernel_rfl) (by kernel_rfl) (by kernel_rfl) (by kernel_rfl) (fun _ _ _ h => h) (Or.inl ⟨by kernel_rfl, by intro u hSu; have b0 := cell_below b0 hSu; have b3 := cell_below b3 hSu; go_simp⟩) hS ?_
          try simp only [Act.put, List.setIfInBounds_toArray, List.set_cons_zero, List.set_cons_succ]
          refine wpAnyE_takeD (L := 18) (i := 2) (v := .pointer (some ⟨B, 0, none⟩)) (some 56) rfl rfl (by kernel_rfl) (by kernel_rfl) (by kernel_rfl) (by kernel_rfl) (fun _ _ _ h => h) (Or.inl ⟨by kernel_rfl, by intro u hSu; have b0 := cell_below b0 hSu; have b3 := cell_below b3 hSu; go_simp⟩) hS ?_
          try simp only [Act.put, List.setIfInBounds_toArray, List.set_cons_zero, List.set_cons_succ]
          refine wpAnyE_takeD (L := 18) (i := 3) (v := .pointer (some ⟨B, 3, none⟩)) (some 57) rfl rfl (by kernel_rfl) (by kernel_rfl) (by kernel_rfl) (by kernel_rfl) (fun _ _ _ h => h) (Or.inl ⟨by kernel_rfl, by intro u hSu; have b0 := cell_below b0 hSu; have b3 := cell_below b3 hSu; go_simp⟩) hS ?_
          try simp only [Act.put, List.setIfInBounds_toArray, List.set_cons_zero, List.set_cons_succ]
          refine wpAnyE_takeD (L := 18) (i := 4) (v := .slice (some ⟨g, off, none⟩) q rc) (some 58) rfl rfl (by kernel_rfl) (by kernel_rfl) (by kernel_rfl) (by kernel_rfl) (fun _ _ _ h => h) (Or.inl ⟨by kernel_rfl, by intro u hSu; have b0 := cell_below b0 hSu; have b3 := cell_below b3 hSu; go_simp⟩) hS ?_
          try simp only [Act.put, List.setIfInBounds_toArray, List.set_cons_zero, List.set_cons_succ]
          refine wpAnyE_takeD (L := 18) (i := 5) (v := .int .i64 (l.length : Int)) (some 59) rfl rfl (by kernel_rfl) (by kernel_rfl) (by kernel_rfl) (by kernel_rfl) (fun _ _ _ h => h) (Or.inl ⟨by kernel_rfl, by intro u hSu; have b0 := cell_below b0 hSu; have b3 := cell_below b3 hSu; go_simp⟩) hS ?_
          try simp only [Act.put, List.setIfInBounds_toArray, List.set_cons_zero, List.set_cons_succ]
          refine wpAnyE_takeD (L := 18) (i := 6) (v := .slice (some ⟨g, off, none⟩) l.length rc) (some 60) rfl rfl (by kernel_rfl) (by kernel_rfl) (by kernel_rfl) (by kernel_rfl) (fun _ _ _ h => h) (Or.inl ⟨by kernel_rfl, by intro u hSu; have b0 := cell_below b0 hSu; have b3 := cell_below b3 hSu; go_simp⟩) hS ?_
          try simp only [Act.put, List.setIfInBounds_toArray, List.set_cons_zero, List.set_cons_succ]
          refine wpAnyE_takeD (L := 18) (i := 7) (v := .pointer (some ⟨B, 0, none⟩)) (some 61) rfl rfl (by kernel_rfl) (by kernel_rfl) (by kernel_rfl) (by kernel_rfl) (fun _ _ _ h => h) (Or.inl ⟨by kernel_rfl, by intro u hSu; have b0 := cell_below b0 hSu; have b3 := cell_below b3 hSu; go_simp⟩) hS ?_
          try simp only [Act.put, List.setIfInBounds_toArray, List.set_cons_zero, List.set_cons_succ]
          refine wpAnyE_takeD (L := 18) (i := 8) (v := .pointer (some ⟨B, 0, none⟩)) (some 62) rfl rfl (by kernel_rfl) (by kernel_rfl) (by kernel_rfl) (by kernel_rfl) (fun _ _ _ h => h) (Or.inl ⟨by kernel_rfl, by intro u hSu; have b0 := cell_below b0 hSu; have b3 := cell_below b3 hSu; go_simp⟩) hS ?_
          try simp only [Act.put, List.setIfInBounds_toArray, List.set_cons_zero, List.set_cons_succ]
          refine wpAnyE_takeD (L := 18) (i := 9) (v := .pointer (some ⟨B, 3, none⟩)) (some 63) rfl rfl (by kernel_rfl) (by kernel_rfl) (by kernel_rfl) (by kernel_rfl) (fun _ _ _ h => h) (Or.inl ⟨by kernel_rfl, by intro u hSu; have b0 := cell_below b0 hSu; have b3 := cell_below b3 hSu; go_simp⟩) hS ?_
          try simp only [Act.put, List.setIfInBounds_toArray, List.set_cons_zero, List.set_cons_succ]
          refine wpAnyE_takeD (L := 18) (i := 10) (v := .slice (some ⟨g, off, none⟩) q rc) (some 64) rfl rfl (by kernel_rfl) (by kernel_rfl) (by kernel_rfl) (by kernel_rfl) (fun _ _ _ h => h) (Or.inl ⟨by kernel_rfl, by intro u hSu; have b0 := cell_below b0 hSu; have b3 := cell_below b3 hSu; go_simp⟩) hS ?_
          try simp only [Act.put, List.setIfInBounds_toArray, List.set_cons_zero, List.set_cons_succ]
          refine wpAnyE_takeD (L := 18) (i := 11) (v := .int .i64 (l.length : Int)) (some 65) rfl rfl (by kernel_rfl) (by kernel_rfl) (by kernel_rfl) (by kernel_rfl) (fun _ _ _ h => h) (Or.inl ⟨by kernel_rfl, by intro u hSu; have b0 := cell_below b0 hSu; have b3 := cell_below b3 hSu; go_simp⟩) hS ?_
          try simp only [Act.put, List.setIfInBounds_toArray, List.set_cons_zero, List.set_cons_succ]
          refine wpAnyE_takeD (L := 18) (i := 12) (v := .int .i64 ((l.length : Int) + 1)) (some 66) rfl rfl (by kernel_rfl) (by kernel_rfl) (by kernel_rfl) (by kernel_rfl) (fun _ _ _ h => h) (Or.inl ⟨by kernel_rfl, by intro u hSu; have b0 := cell_below b0 hSu; have b3 := cell_below b3 hSu; go_simp⟩) hS ?_
          try simp only [Act.put, List.setIfInBounds_toArray, List.set_cons_zero, List.set_cons_succ]
          refine wpAnyE_takeD (L := 18) (i := 13) (v := .slice (some ⟨g, off, none⟩) (q - (l.length + 1)) 0) (some 67) rfl rfl (by kernel_rfl) (by kernel_rfl) (by kernel_rfl) (by kernel_rfl) (fun _ _ _ h => h) (Or.inl ⟨by kernel_rfl, by intro u hSu; have b0 := cell_below b0 hSu; have b3 := cell_below b3 hSu; go_simp⟩) hS ?_
          try simp only [Act.put, List.setIfInBounds_toArray, List.set_cons_zero, List.set_cons_succ]
          refine wpAnyE_ready (rs := [14]) (by kernel_rfl) (by simp) ?_
          refine AllReadyE.cons rfl (fun K9 hK => ?_) AllReadyE.nil
          go_simp
          refine hK.out _ _ (below_then hS (below_new _ _)) (fun hS9 => ?_)
          try simp only [Act.put, List.setIfInBounds_toArray, List.set_cons_zero, List.set_cons_succ]
          clear hK K9 hS
          have hS := hS9
          clear hS9
          refine wpAnyE_ready (rs := [15]) (by kernel_rfl) (by simp) ?_
          refine AllReadyE.cons rfl (fun K9 hK => ?_) AllReadyE.nil
          go_simp
          refine (joined2H_any l r (some ⟨g, off, none⟩) (some ⟨g, off, none⟩) l.length (q - (l.length + 1)) rc 0 W3.heap.size _ rfl HRL.out (by simp [*]) (by simp [*]) (HP1.out.below hS) (HP3.out.below hS) (by omega)).mono ?_
          rintro e w4 ⟨a3, c3, rfl, hb4, ho4⟩
          have hB4 : Below W3.heap.size W3 w4 := below_then hS hb4
          have hRD := HRP.out.del hB4 rfl (row_base ho4 (by simp))
          have bB := cell_below b3 hB4
          have fB : w4.frozen? ⟨B, 3, none⟩ = false := (World.frozen?_of_block (w := W3) (a := ⟨B, 3, none⟩) (hB4.block B (Go.block_lt_of_cell b0))).trans (HRP.out.frz 3)
          have HB4 : Hid (Below W3.heap.size W3 w4) := hB4
          have HRD : Hid (RpI W (w4.setCell ⟨B, 3, none⟩ (.slice a3 (l ++ r).length c3)) B nx ck tsl M a3 c3 (l ++ r).length (l ++ r)) := hRD
          clear hRD ho4 hB4
          refine hK.out _ _ (below_then hS hb4) (fun hS9 => ?_)
          try simp only [Act.put, List.setIfInBounds_toArray, List.set_cons_zero, List.set_cons_succ]
          clear hK K9 hS
          have hS := hS9
          clear hS9
          clear hb4
          refine wpAnyE_ready (rs := [16]) (by kernel_rfl) (by simp) ?_
          refine AllReadyE.cons rfl (fun K9 hK => ?_) AllReadyE.nil
          go_simp
          refine hK.out _ _ (hS) (fun hS9 => ?_)
          try simp only [Act.put, List.setIfInBounds_toArray, List.set_cons_zero, List.set_cons_succ]
          clear hK K9 hS
          have hS := hS9
          clear hS9
          refine wpAnyE_takeD (L := 18) (i := 17) (v := .pointer (some ⟨B, 3, none⟩)) (some 71) rfl rfl (by kernel_rfl) (by kernel_rfl) (by kernel_rfl) (by kernel_rfl) (fun _ _ _ h => h) (Or.inl ⟨by kernel_rfl, by intro u hSu; go_simp⟩) hS ?_
          try simp only [Act.put, List.setIfInBounds_toArray, List.set_cons_zero, List.set_cons_succ]
          refine wpAnyE_ready (rs := [18]) (by kernel_rfl) (by simp) ?_
          refine AllReadyE.last rfl (fun K9 hK => ?_)
          go_simp
          refine hK.out _ _ ?_
          try simp only [Act.put, List.setIfInBounds_toArray, List.set_cons_zero, List.set_cons_succ]
          clear hK K9 hS
          refine wpAnyE_done (by kernel_rfl) ?_ _
          go_simp
          go_wp2_with fail
          refine bodyPost_ret (results_none rfl _ _ _) rfl ?_
          refine ⟨rfl, (hKO3.out.trans (ko_below HB4.out)).trans (KeepsOthers.setCell _ _ _), a3, c3, l.length + r.length, ⟨⟨x0.t.key, x0.t.n - 1, fun i => x0.t.U (i + 1)⟩, A, cA, 0, 0⟩, by unfold tkR; rw [hu, if_neg (by simp)], ?_⟩
          rw [if_pos (by show x0.t.n - 1 = 0; have := HZ.out; omega), List.append_nil]
          have h9 := HRD.out
          simp only [List.length_append] at h9
          exact h9
        · have hrc2 : ¬ (rc : Int) = (l.length : Int) + 1 := by omega
          have HP3 : Hid (HAtRw W3 (some ⟨g, off + (l.length + 1) * 2, none⟩) r) := HP2
          clear HP2
          refine wp_region_E 18 (S := fun u1 => Below W3.heap.size W3 u1) hmo (drew1 _) (fun hS => ?_)
          refine wpAnyE_takeD (L := 18) (i := 0) (v := .pointer (some ⟨B, 0, none⟩)) (some 54) rfl rfl (by kernel_rfl) (by kernel_rfl) (by kernel_rfl) (by kernel_rfl) (fun _ _ _ h => h) (Or.inl ⟨by kernel_rfl, by intro u hSu; have b0 := cell_below b0 hSu; have b3 := cell_below b3 hSu; go_simp⟩) hS ?_
          try simp only [Act.put, List.setIfInBounds_toArray, List.set_cons_zero, List.set_cons_succ]
          refine wpAnyE_takeD (L := 18) (i := 1) (v := .pointer (some ⟨B, 0, none⟩)) (some 55) rfl rfl (by kernel_rfl) (by kernel_rfl) (by kernel_rfl) (by kernel_rfl) (fun _ _ _ h => h) (Or.inl ⟨by kernel_rfl, by intro u hSu; have b0 := cell_below b0 hSu; have b3 := cell_below b3 hSu; go_simp⟩) hS ?_
          try simp only [Act.put, List.setIfInBounds_toArray, List.set_cons_zero, List.set_cons_succ]
          refine wpAnyE_takeD (L := 18) (i := 2) (v := .pointer (some ⟨B, 0, none⟩)) (some 56) rfl rfl (by kernel_rfl) (by kernel_rfl) (by kernel_rfl) (by kernel_rfl) (fun _ _ _ h => h) (Or.inl ⟨by kernel_rfl, by intro u hSu; have b0 := cell_below b0 hSu; have b3 := cell_below b3 hSu; go_simp⟩) hS ?_
          try simp only [Act.put, List.setIfInBounds_toArray, List.set_cons_zero, List.set_cons_succ]
          refine wpAnyE_takeD (L := 18) (i := 3) (v := .pointer (some ⟨B, 3, none⟩)) (some 57) rfl rfl (by kernel_rfl) (by kernel_rfl) (by kernel_rfl) (by kernel_rfl) (fun _ _ _ h => h) (Or.inl ⟨by kernel_rfl, by intro u hSu; have b0 := cell_below b0 hSu; have b3 := cell_below b3 hSu; go_simp⟩) hS ?_
          try simp only [Act.put, List.setIfInBounds_toArray, List.set_cons_zero, List.set_cons_succ]
          refine wpAnyE_takeD (L := 18) (i := 4) (v := .slice (some ⟨g, off, none⟩) q rc) (some 58) rfl rfl (by kernel_rfl) (by kernel_rfl) (by kernel_rfl) (by kernel_rfl) (fun _ _ _ h => h) (Or.inl ⟨by kernel_rfl, by intro u hSu; have b0 := cell_below b0 hSu; have b3 := cell_below b3 hSu; go_simp⟩) hS ?_
          try simp only [Act.put, List.setIfInBounds_toArray, List.set_cons_zero, List.set_cons_succ]
          refine wpAnyE_takeD (L := 18) (i := 5) (v := .int .i64 (l.length : Int)) (some 59) rfl rfl (by kernel_rfl) (by kernel_rfl) (by kernel_rfl) (by kernel_rfl) (fun _ _ _ h => h) (Or.inl ⟨by kernel_rfl, by intro u hSu; have b0 := cell_below b0 hSu; have b3 := cell_below b3 hSu; go_simp⟩) hS ?_
          try simp only [Act.put, List.setIfInBounds_toArray, List.set_cons_zero, List.set_cons_succ]
          refine wpAnyE_takeD (L := 18) (i := 6) (v := .slice (some ⟨g, off, none⟩) l.length rc) (some 60) rfl rfl (by kernel_rfl) (by kernel_rfl) (by kernel_rfl) (by kernel_rfl) (fun _ _ _ h => h) (Or.inl ⟨by kernel_rfl, by intro u hSu; have b0 := cell_below b0 hSu; have b3 := cell_below b3 hSu; go_simp⟩) hS ?_
          try simp only [Act.put, List.setIfInBounds_toArray, List.set_cons_zero, List.set_cons_succ]
          refine wpAnyE_takeD (L := 18) (i := 7) (v := .pointer (some ⟨B, 0, none⟩)) (some 61) rfl rfl (by kernel_rfl) (by kernel_rfl) (by kernel_rfl) (by kernel_rfl) (fun _ _ _ h => h) (Or.inl ⟨by kernel_rfl, by intro u hSu; have b0 := cell_below b0 hSu; have b3 := cell_below b3 hSu; go_simp⟩) hS ?_
          try simp only [Act.put, List.setIfInBounds_toArray, List.set_cons_zero, List.set_cons_succ]
          refine wpAnyE_takeD (L := 18) (i := 8) (v := .pointer (some ⟨B, 0, none⟩)) (some 62) rfl rfl (by kernel_rfl) (by kernel_rfl) (by kernel_rfl) (by kernel_rfl) (fun _ _ _ h => h) (Or.inl ⟨by kernel_rfl, by intro u hSu; have b0 := cell_below b0 hSu; have b3 := cell_below b3 hSu; go_simp⟩) hS ?_
          try simp only [Act.put, List.setIfInBounds_toArray, List.set_cons_zero, List.set_cons_succ]
          refine wpAnyE_takeD (L := 18) (i := 9) (v := .pointer (some ⟨B, 3, none⟩)) (some 63) rfl rfl (by kernel_rfl) (by kernel_rfl) (by kernel_rfl) (by kernel_rfl) (fun _ _ _ h => h) (Or.inl ⟨by kernel_rfl, by intro u hSu; have b0 := cell_below b0 hSu; have b3 := cell_below b3 hSu; go_simp⟩) hS ?_
          try simp only [Act.put, List.setIfInBounds_toArray, List.set_cons_zero, List.set_cons_succ]
          refine wpAnyE_takeD (L := 18) (i := 10) (v := .slice (some ⟨g, off, none⟩) q rc) (some 64) rfl rfl (by kernel_rfl) (by kernel_rfl) (by kernel_rfl) (by kernel_rfl) (fun _ _ _ h => h) (Or.inl ⟨by kernel_rfl, by intro u hSu; have b0 := cell_below b0 hSu; have b3 := cell_below b3 hSu; go_simp⟩) hS ?_
          try simp only [Act.put, List.setIfInBounds_toArray, List.set_cons_zero, List.set_cons_succ]
          refine wpAnyE_takeD (L := 18) (i := 11) (v := .int .i64 (l.length : Int)) (some 65) rfl rfl (by kernel_rfl) (by kernel_rfl) (by kernel_rfl) (by kernel_rfl) (fun _ _ _ h => h) (Or.inl ⟨by kernel_rfl, by intro u hSu; have b0 := cell_below b0 hSu; have b3 := cell_below b3 hSu; go_simp⟩) hS ?_
          try simp only [Act.put, List.setIfInBounds_toArray, List.set_cons_zero, List.set_cons_succ]
          refine wpAnyE_takeD (L := 18) (i := 12) (v := .int .i64 ((l.length : Int) + 1)) (some 66) rfl rfl (by kernel_rfl) (by kernel_rfl) (by kernel_rfl) (by kernel_rfl) (fun _ _ _ h => h) (Or.inl ⟨by kernel_rfl, by intro u hSu; have b0 := cell_below b0 hSu; have b3 := cell_below b3 hSu; go_simp⟩) hS ?_
          try simp only [Act.put, List.setIfInBounds_toArray, List.set_cons_zero, List.set_cons_succ]
          refine wpAnyE_takeD (L := 18) (i := 13) (v := .slice (some ⟨g, off + (l.length + 1) * 2, none⟩) (q - (l.length + 1)) (rc - (l.length + 1))) (some 67) rfl rfl (by kernel_rfl) (by kernel_rfl) (by kernel_rfl) (by kernel_rfl) (fun _ _ _ h => h) (Or.inl ⟨by kernel_rfl, by intro u hSu; have b0 := cell_below b0 hSu; have b3 := cell_below b3 hSu; go_simp⟩) hS ?_
          try simp only [Act.put, List.setIfInBounds_toArray, List.set_cons_zero, List.set_cons_succ]
          refine wpAnyE_ready (rs := [14]) (by kernel_rfl) (by simp) ?_
          refine AllReadyE.cons rfl (fun K9 hK => ?_) AllReadyE.nil
          go_simp
          refine hK.out _ _ (below_then hS (below_new _ _)) (fun hS9 => ?_)
          try simp only [Act.put, List.setIfInBounds_toArray, List.set_cons_zero, List.set_cons_succ]
          clear hK K9 hS
          have hS := hS9
          clear hS9
          refine wpAnyE_ready (rs := [15]) (by kernel_rfl) (by simp) ?_
          refine AllReadyE.cons rfl (fun K9 hK => ?_) AllReadyE.nil
          go_simp
          refine (joined2H_any l r (some ⟨g, off, none⟩) (some ⟨g, off + (l.length + 1) * 2, none⟩) l.length (q - (l.length + 1)) rc (rc - (l.length + 1)) W3.heap.size _ rfl HRL.out (by simp [*]) (by simp [*]) (HP1.out.below hS) (HP3.out.below hS) (by omega)).mono ?_
          rintro e w4 ⟨a3, c3, rfl, hb4, ho4⟩
          have hB4 : Below W3.heap.size W3 w4 := below_then hS hb4
          have hRD := HRP.out.del hB4 rfl (row_base ho4 (by simp))
          have bB := cell_below b3 hB4
          have fB : w4.frozen? ⟨B, 3, none⟩ = false := (World.frozen?_of_block (w := W3) (a := ⟨B, 3, none⟩) (hB4.block B (Go.block_lt_of_cell b0))).trans (HRP.out.frz 3)
          have HB4 : Hid (Below W3.heap.size W3 w4) := hB4
          have HRD : Hid (RpI W (w4.setCell ⟨B, 3, none⟩ (.slice a3 (l ++ r).length c3)) B nx ck tsl M a3 c3 (l ++ r).length (l ++ r)) := hRD
          clear hRD ho4 hB4
          refine hK.out _ _ (below_then hS hb4) (fun hS9 => ?_)
          try simp only [Act.put, List.setIfInBounds_toArray, List.set_cons_zero, List.set_cons_succ]
          clear hK K9 hS
          have hS := hS9
          clear hS9
          clear hb4
          refine wpAnyE_ready (rs := [16]) (by kernel_rfl) (by simp) ?_
          refine AllReadyE.cons rfl (fun K9 hK => ?_) AllReadyE.nil
          go_simp
          refine hK.out _ _ (hS) (fun hS9 => ?_)
          try simp only [Act.put, List.setIfInBounds_toArray, List.set_cons_zero, List.set_cons_succ]
          clear hK K9 hS
          have hS := hS9
          clear hS9
          refine wpAnyE_takeD (L := 18) (i := 17) (v := .pointer (some ⟨B, 3, none⟩)) (some 71) rfl rfl (by kernel_rfl) (by kernel_rfl) (by kernel_rfl) (by kernel_rfl) (fun _ _ _ h => h) (Or.inl ⟨by kernel_rfl, by intro u hSu; go_simp⟩) hS ?_
          try simp only [Act.put, List.setIfInBounds_toArray, List.set_cons_zero, List.set_cons_succ]
          refine wpAnyE_ready (rs := [18]) (by kernel_rfl) (by simp) ?_
          refine AllReadyE.last rfl (fun K9 hK => ?_)
          go_simp
          refine hK.out _ _ ?_
          try simp only [Act.put, List.setIfInBounds_toArray, List.set_cons_zero, List.set_cons_succ]
          clear hK K9 hS
          refine wpAnyE_done (by kernel_rfl) ?_ _
          go_simp
          go_wp2_with fail
          refine bodyPost_ret (results_none rfl _ _ _) rfl ?_
          refine ⟨rfl, (hKO3.out.trans (ko_below HB4.out)).trans (KeepsOthers.setCell _ _ _), a3, c3, l.length + r.length, ⟨⟨x0.t.key, x0.t.n - 1, fun i => x0.t.U (i + 1)⟩, A, cA, 0, 0⟩, by unfold tkR; rw [hu, if_neg (by simp)], ?_⟩
          rw [if_pos (by show x0.t.n - 1 = 0; have := HZ.out; omega), List.append_nil]
          have h9 := HRD.out
          simp only [List.length_append] at h9
          exact h9
      · exact absurd HN0.out hz
    · have hcap2 : ¬ (x0.c : Int) = 1 := by omega
      go_wp2_with fail
      refine (joined1_anyw (x0.t.n - 1) (fun i => x0.t.U (i + 1)) (some ⟨cb, co + 4, none⟩) (x0.c - 1) w1.heap.size _ (by omega) (by simp) (HVT.out _ _ (below_new _ _) (.inl rfl))).mono ?_
      rintro e w2 ⟨A, cA, rfl, hb2, hOA, hnA⟩
      have hB2 : Below w1.heap.size w1 w2 := below_then (below_new _ _) hb2
      have hsz2 := hB2.size
      obtain ⟨g', off', eg, -, -, -, hRP⟩ := R1.out.setH hB2 A cA _ w2.heap.size (x0.t.n - 1) (fun i => x0.t.U (i + 1)) (by simp) (Nat.le_refl _) hnA hOA
      simp only [Option.some.injEq, Addr.mk.injEq, and_true] at eg
      obtain ⟨rfl, rfl⟩ := eg
      replace b0 := cell_below b0 hB2
      replace b3 := cell_below b3 hB2
      replace c0 := cell_below c0 hB2
      replace c1 := cell_below c1 hB2
      have gf : ∀ i, w2.frozen? ⟨g, i, none⟩ = false := fun i => (World.frozen?_of_block (w := w1) (a := ⟨g, i, none⟩) (hB2.block g hgl)).trans (HGF.out i)
      have HRP : Hid (RpI W (w2.setCell ⟨g, off + l.length * 2 + 1, none⟩ (.slice A (x0.t.n - 1) cA)) B nx ck tsl M (some ⟨g, off, none⟩) rc q (l ++ ⟨⟨x0.t.key, x0.t.n - 1, fun i => x0.t.U (i + 1)⟩, A, cA, (w1.alloc (.cells #[.slice (some ⟨cb, co + 4, none⟩) (x0.t.n - 1) (x0.c - 1)] 85)).heap.size, w2.heap.size⟩ :: r)) := hRP
      have HB2 : Hid (Below w.heap.size w w2) := below_then HB1.out hB2
      clear hb2 hB2 hRP hOA y0 y1 y2 y3
      by_cases hz : x0.t.n = 1
      · have hzz : (((x0.t.n - 1 : Nat) : Int) == 0) = true := by simp; omega
        have HZ : Hid (x0.t.n = 1) := hz
        clear hz
        go_upto_region 7 with fail
        obtain ⟨W3, hW3⟩ : ∃ x, x = w2.setCell ⟨g, off + l.length * 2 + 1, none⟩ (.slice A (x0.t.n - 1) cA) := ⟨_, rfl⟩
        have hKO3 : Hid (KeepsOthers w W3) := (ko_below HB2.out).trans (by rw [hW3]; exact KeepsOthers.setCell _ _ _)
        rw [← hW3] at HRP ⊢
        clear hW3 gf c0 c1 b0 b1 b2 b3 hzz
        obtain ⟨b0, b1, b2, b3⟩ := HRP.out.box
        obtain ⟨hP1, hP2⟩ := HRP.out.pieces
        have hql := HRP.out.len
        have hqc := HRP.out.qc
        rw [List.length_append, List.length_cons] at hql
        have hi1 : (l.length : Int) ≤ (rc : Int) := by omega
        have hi2 : (l.length : Int) + 1 ≤ (q : Int) := by omega
        have hi3 : (q : Int) ≤ (rc : Int) := by omega
        have hi4 : (0 : Int) ≤ (l.length : Int) + 1 := by omega
        have hwl : IntKind.i64.wrap ((l.length : Int) + 1) = (l.length : Int) + 1 := by rw [IntKind.wrap_i64]; omega
        have htn : ((l.length : Int) + 1).toNat = l.length + 1 := by omega
        have HRL : Hid (r.length = q - (l.length + 1)) := by show r.length = q - (l.length + 1); omega
        have hi5 : ¬ ((l.length : Int) + 1 < (l.length : Int)) := by omega
        have HP1 : Hid (HAtRw W3 (some ⟨g, off, none⟩) l) := hP1
        have HP2 : Hid (HAtRw W3 (some ⟨g, off + (l.length + 1) * 2, none⟩) r) := hP2
        clear hP1 hP2
        by_cases hrc : rc = l.length + 1
        · have HP3 : Hid (HAtRw W3 (some ⟨g, off, none⟩) r) := .inl (List.eq_nil_of_length_eq_zero (by have := HRL.out; omega))
          clear HP2
          refine wp_region_E 18 (S := fun u1 => Below W3.heap.size W3 u1) hmo (drew1 _) (fun hS => ?_)
          refine wpAnyE_takeD (L := 18) (i := 0) (v := .pointer (some ⟨B, 0, none⟩)) (some 54) rfl rfl (by kernel_rfl) (by kernel_rfl) (by kernel_rfl) (by kernel_rfl) (fun _ _ _ h => h) (Or.inl ⟨by kernel_rfl, by intro u hSu; have b0 := cell_below b0 hSu; have b3 := cell_below b3 hSu; go_simp⟩) hS ?_
          try simp only [Act.put, List.setIfInBounds_toArray, List.set_cons_zero, List.set_cons_succ]
          refine wpAnyE_takeD (L := 18) (i := 1) (v := .pointer (some ⟨B, 0, none⟩)) (some 55) rfl rfl (by kernel_rfl) (by kernel_rfl) (by kernel_rfl) (by kernel_rfl) (fun _ _ _ h => h) (Or.inl ⟨by kernel_rfl, by intro u hSu; have b0 := cell_below b0 hSu; have b3 := cell_below b3 hSu; go_simp⟩) hS ?_
          try simp only [Act.put, List.setIfInBounds_toArray, List.set_cons_zero, List.set_cons_succ]
          refine wpAnyE_takeD (L := 18) (i := 2) (v := .pointer (some ⟨B, 0, none⟩)) (some 56) rfl rfl (by kernel_rfl) (by kernel_rfl) (by kernel_rfl) (by kernel_rfl) (fun _ _ _ h => h) (Or.inl ⟨by kernel_rfl, by intro u hSu; have b0 := cell_below b0 hSu; have b3 := cell_below b3 hSu; go_simp⟩) hS ?_
          try simp only [Act.put, List.setIfInBounds_toArray, List.set_cons_zero, List.set_cons_succ]
          refine wpAnyE_takeD (L := 18) (i := 3) (v := .pointer (some ⟨B, 3, none⟩)) (some 57) rfl rfl (by kernel_rfl) (by kernel_rfl) (by kernel_rfl) (by kernel_rfl) (fun _ _ _ h => h) (Or.inl ⟨by kernel_rfl, by intro u hSu; have b0 := cell_below b0 hSu; have b3 := cell_below b3 hSu; go_simp⟩) hS ?_
          try simp only [Act.put, List.setIfInBounds_toArray, List.set_cons_zero, List.set_cons_succ]
          refine wpAnyE_takeD (L := 18) (i := 4) (v := .slice (some ⟨g, off, none⟩) q rc) (some 58) rfl rfl (by kernel_rfl) (by kernel_rfl) (by kernel_rfl) (by kernel_rfl) (fun _ _ _ h => h) (Or.inl ⟨by kernel_rfl, by intro u hSu; have b0 := cell_below b0 hSu; have b3 := cell_below b3 hSu; go_simp⟩) hS ?_
          try simp only [Act.put, List.setIfInBounds_toArray, List.set_cons_zero, List.set_cons_succ]
          refine wpAnyE_takeD (L := 18) (i := 5) (v := .int .i64 (l.length : Int)) (some 59) rfl rfl (by kernel_rfl) (by kernel_rfl) (by kernel_rfl) (by kernel_rfl) (fun _ _ _ h => h) (Or.inl ⟨by kernel_rfl, by intro u hSu; have b0 := cell_below b0 hSu; have b3 := cell_below b3 hSu; go_simp⟩) hS ?_
          try simp only [Act.put, List.setIfInBounds_toArray, List.set_cons_zero, List.set_cons_succ]
          refine wpAnyE_takeD (L := 18) (i := 6) (v := .slice (some ⟨g, off, none⟩) l.length rc) (some 60) rfl rfl (by kernel_rfl) (by kernel_rfl) (by kernel_rfl) (by kernel_rfl) (fun _ _ _ h => h) (Or.inl ⟨by kernel_rfl, by intro u hSu; have b0 := cell_below b0 hSu; have b3 := cell_below b3 hSu; go_simp⟩) hS ?_
          try simp only [Act.put, List.setIfInBounds_toArray, List.set_cons_zero, List.set_cons_succ]
          refine wpAnyE_takeD (L := 18) (i := 7) (v := .pointer (some ⟨B, 0, none⟩)) (some 61) rfl rfl (by kernel_rfl) (by kernel_rfl) (by kernel_rfl) (by kernel_rfl) (fun _ _ _ h => h) (Or.inl ⟨by kernel_rfl, by intro u hSu; have b0 := cell_below b0 hSu; have b3 := cell_below b3 hSu; go_simp⟩) hS ?_
          try simp only [Act.put, List.setIfInBounds_toArray, List.set_cons_zero, List.set_cons_succ]
          refine wpAnyE_takeD (L := 18) (i := 8) (v := .pointer (some ⟨B, 0, none⟩)) (some 62) rfl rfl (by kernel_rfl) (by kernel_rfl) (by kernel_rfl) (by kernel_rfl) (fun _ _ _ h => h) (Or.inl ⟨by kernel_rfl, by intro u hSu; have b0 := cell_below b0 hSu; have b3 := cell_below b3 hSu; go_simp⟩) hS ?_
          try simp only [Act.put, List.setIfInBounds_toArray, List.set_cons_zero, List.set_cons_succ]
          refine wpAnyE_takeD (L := 18) (i := 9) (v := .pointer (some ⟨B, 3, none⟩)) (some 63) rfl rfl (by kernel_rfl) (by kernel_rfl) (by kernel_rfl) (by kernel_rfl) (fun _ _ _ h => h) (Or.inl ⟨by kernel_rfl, by intro u hSu; have b0 := cell_below b0 hSu; have b3 := cell_below b3 hSu; go_simp⟩) hS ?_
          try simp only [Act.put, List.setIfInBounds_toArray, List.set_cons_zero, List.set_cons_succ]
          refine wpAnyE_takeD (L := 18) (i := 10) (v := .slice (some ⟨g, off, none⟩) q rc) (some 64) rfl rfl (by kernel_rfl) (by kernel_rfl) (by kernel_rfl) (by kernel_rfl) (fun _ _ _ h => h) (Or.inl ⟨by kernel_rfl, by intro u hSu; have b0 := cell_below b0 hSu; have b3 := cell_below b3 hSu; go_simp⟩) hS ?_
          try simp only [Act.put, List.setIfInBounds_toArray, List.set_cons_zero, List.set_cons_succ]
          refine wpAnyE_takeD (L := 18) (i := 11) (v := .int .i64 (l.length : Int)) (some 65) rfl rfl (by kernel_rfl) (by kernel_rfl) (by kernel_rfl) (by kernel_rfl) (fun _ _ _ h => h) (Or.inl ⟨by kernel_rfl, by intro u hSu; have b0 := cell_below b0 hSu; have b3 := cell_below b3 hSu; go_simp⟩) hS ?_
          try simp only [Act.put, List.setIfInBounds_toArray, List.set_cons_zero, List.set_cons_succ]
          refine wpAnyE_takeD (L := 18) (i := 12) (v := .int .i64 ((l.length : Int) + 1)) (some 66) rfl rfl (by kernel_rfl) (by kernel_rfl) (by kernel_rfl) (by kernel_rfl) (fun _ _ _ h => h) (Or.inl ⟨by kernel_rfl, by intro u hSu; have b0 := cell_below b0 hSu; have b3 := cell_below b3 hSu; go_simp⟩) hS ?_
          try simp only [Act.put, List.setIfInBounds_toArray, List.set_cons_zero, List.set_cons_succ]
          refine wpAnyE_takeD (L := 18) (i := 13) (v := .slice (some ⟨g, off, none⟩) (q - (l.length + 1)) 0) (some 67) rfl rfl (by kernel_rfl) (by kernel_rfl) (by kernel_rfl) (by kernel_rfl) (fun _ _ _ h => h) (Or.inl ⟨by kernel_rfl, by intro u hSu; have b0 := cell_below b0 hSu; have b3 := cell_below b3 hSu; go_simp⟩) hS ?_
          try simp only [Act.put, List.setIfInBounds_toArray, List.set_cons_zero, List.set_cons_succ]
          refine wpAnyE_ready (rs := [14]) (by kernel_rfl) (by simp) ?_
          refine AllReadyE.cons rfl (fun K9 hK => ?_) AllReadyE.nil
          go_simp
          refine hK.out _ _ (below_then hS (below_new _ _)) (fun hS9 => ?_)
          try simp only [Act.put, List.setIfInBounds_toArray, List.set_cons_zero, List.set_cons_succ]
          clear hK K9 hS
          have hS := hS9
          clear hS9
          refine wpAnyE_ready (rs := [15]) (by kernel_rfl) (by simp) ?_
          refine AllReadyE.cons rfl (fun K9 hK => ?_) AllReadyE.nil
          go_simp
          refine (joined2H_any l r (some ⟨g, off, none⟩) (some ⟨g, off, none⟩) l.length (q - (l.length + 1)) rc 0 W3.heap.size _ rfl HRL.out (by simp [*]) (by simp [*]) (HP1.out.below hS) (HP3.out.below hS) (by omega)).mono ?_
          rintro e w4 ⟨a3, c3, rfl, hb4, ho4⟩
          have hB4 : Below W3.heap.size W3 w4 := below_then hS hb4
          have hRD := HRP.out.del hB4 rfl (row_base ho4 (by simp))
          have bB := cell_below b3 hB4
          have fB : w4.frozen? ⟨B, 3, none⟩ = false := (World.frozen?_of_block (w := W3) (a := ⟨B, 3, none⟩) (hB4.block B (Go.block_lt_of_cell b0))).trans (HRP.out.frz 3)
          have HB4 : Hid (Below W3.heap.size W3 w4) := hB4
          have HRD : Hid (RpI W (w4.setCell ⟨B, 3, none⟩ (.slice a3 (l ++ r).length c3)) B nx ck tsl M a3 c3 (l ++ r).length (l ++ r)) := hRD
          clear hRD ho4 hB4
          refine hK.out _ _ (below_then hS hb4) (fun hS9 => ?_)
          try simp only [Act.put, List.setIfInBounds_toArray, List.set_cons_zero, List.set_cons_succ]
          clear hK K9 hS
          have hS := hS9
          clear hS9
          clear hb4
          refine wpAnyE_ready (rs := [16]) (by kernel_rfl) (by simp) ?_
          refine AllReadyE.cons rfl (fun K9 hK => ?_) AllReadyE.nil
          go_simp
          refine hK.out _ _ (hS) (fun hS9 => ?_)
          try simp only [Act.put, List.setIfInBounds_toArray, List.set_cons_zero, List.set_cons_succ]
          clear hK K9 hS
          have hS := hS9
          clear hS9
          refine wpAnyE_takeD (L := 18) (i := 17) (v := .pointer (some ⟨B, 3, none⟩)) (some 71) rfl rfl (by kernel_rfl) (by kernel_rfl) (by kernel_rfl) (by kernel_rfl) (fun _ _ _ h => h) (Or.inl ⟨by kernel_rfl, by intro u hSu; go_simp⟩) hS ?_
          try simp only [Act.put, List.setIfInBounds_toArray, List.set_cons_zero, List.set_cons_succ]
          refine wpAnyE_ready (rs := [18]) (by kernel_rfl) (by simp) ?_
          refine AllReadyE.last rfl (fun K9 hK => ?_)
          go_simp
          refine hK.out _ _ ?_
          try simp only [Act.put, List.setIfInBounds_toArray, List.set_cons_zero, List.set_cons_succ]
          clear hK K9 hS
          refine wpAnyE_done (by kernel_rfl) ?_ _
          go_simp
          go_wp2_with fail
          refine bodyPost_ret (results_none rfl _ _ _) rfl ?_
          refine ⟨rfl, (hKO3.out.trans (ko_below HB4.out)).trans (KeepsOthers.setCell _ _ _), a3, c3, l.length + r.length, ⟨⟨x0.t.key, x0.t.n - 1, fun i => x0.t.U (i + 1)⟩, A, cA, 0, 0⟩, by unfold tkR; rw [hu, if_neg (by simp)], ?_⟩
          rw [if_pos (by show x0.t.n - 1 = 0; have := HZ.out; omega), List.append_nil]
          have h9 := HRD.out
          simp only [List.length_append] at h9
          exact h9
        · have hrc2 : ¬ (rc : Int) = (l.length : Int) + 1 := by omega
          have HP3 : Hid (HAtRw W3 (some ⟨g, off + (l.length + 1) * 2, none⟩) r) := HP2
          clear HP2
          refine wp_region_E 18 (S := fun u1 => Below W3.heap.size W3 u1) hmo (drew1 _) (fun hS => ?_)
          refine wpAnyE_takeD (L := 18) (i := 0) (v := .pointer (some ⟨B, 0, none⟩)) (some 54) rfl rfl (by kernel_rfl) (by kernel_rfl) (by kernel_rfl) (by kernel_rfl) (fun _ _ _ h => h) (Or.inl ⟨by kernel_rfl, by intro u hSu; have b0 := cell_below b0 hSu; have b3 := cell_below b3 hSu; go_simp⟩) hS ?_
          try simp only [Act.put, List.setIfInBounds_toArray, List.set_cons_zero, List.set_cons_succ]
          refine wpAnyE_takeD (L := 18) (i := 1) (v := .pointer (some ⟨B, 0, none⟩)) (some 55) rfl rfl (by kernel_rfl) (by kernel_rfl) (by kernel_rfl) (by kernel_rfl) (fun _ _ _ h => h) (Or.inl ⟨by kernel_rfl, by intro u hSu; have b0 := cell_below b0 hSu; have b3 := cell_below b3 hSu; go_simp⟩) hS ?_
          try simp only [Act.put, List.setIfInBounds_toArray, List.set_cons_zero, List.set_cons_succ]
          refine wpAnyE_takeD (L := 18) (i := 2) (v := .pointer (some ⟨B, 0, none⟩)) (some 56) rfl rfl (by kernel_rfl) (by kernel_rfl) (by kernel_rfl) (by kernel_rfl) (fun _ _ _ h => h) (Or.inl ⟨by kernel_rfl, by intro u hSu; have b0 := cell_below b0 hSu; have b3 := cell_below b3 hSu; go_simp⟩) hS ?_
          try simp only [Act.put, List.setIfInBounds_toArray, List.set_cons_zero, List.set_cons_succ]
          refine wpAnyE_takeD (L := 18) (i := 3) (v := .pointer (some ⟨B, 3, none⟩)) (some 57) rfl rfl (by kernel_rfl) (by kernel_rfl) (by kernel_rfl) (by kernel_rfl) (fun _ _ _ h => h) (Or.inl ⟨by kernel_rfl, by intro u hSu; have b0 := cell_below b0 hSu; have b3 := cell_below b3 hSu; go_simp⟩) hS ?_
          try simp only [Act.put, List.setIfInBounds_toArray, List.set_cons_zero, List.set_cons_succ]
          refine wpAnyE_takeD (L := 18) (i := 4) (v := .slice (some ⟨g, off, none⟩) q rc) (some 58) rfl rfl (by kernel_rfl) (by kernel_rfl) (by kernel_rfl) (by kernel_rfl) (fun _ _ _ h => h) (Or.inl ⟨by kernel_rfl, by intro u hSu; have b0 := cell_below b0 hSu; have b3 := cell_below b3 hSu; go_simp⟩) hS ?_
          try simp only [Act.put, List.setIfInBounds_toArray, List.set_cons_zero, List.set_cons_succ]
          refine wpAnyE_takeD (L := 18) (i := 5) (v := .int .i64 (l.length : Int)) (some 59) rfl rfl (by kernel_rfl) (by kernel_rfl) (by kernel_rfl) (by kernel_rfl) (fun _ _ _ h => h) (Or.inl ⟨by kernel_rfl, by intro u hSu; have b0 := cell_below b0 hSu; have b3 := cell_below b3 hSu; go_simp⟩) hS ?_
          try simp only [Act.put, List.setIfInBounds_toArray, List.set_cons_zero, List.set_cons_succ]
          refine wpAnyE_takeD (L := 18) (i := 6) (v := .slice (some ⟨g, off, none⟩) l.length rc) (some 60) rfl rfl (by kernel_rfl) (by kernel_rfl) (by kernel_rfl) (by kernel_rfl) (fun _ _ _ h => h) (Or.inl ⟨by kernel_rfl, by intro u hSu; have b0 := cell_below b0 hSu; have b3 := cell_below b3 hSu; go_simp⟩) hS ?_
          try simp only [Act.put, List.setIfInBounds_toArray, List.set_cons_zero, List.set_cons_succ]
          refine wpAnyE_takeD (L := 18) (i := 7) (v := .pointer (some ⟨B, 0, none⟩)) (some 61) rfl rfl (by kernel_rfl) (by kernel_rfl) (by kernel_rfl) (by kernel_rfl) (fun _ _ _ h => h) (Or.inl ⟨by kernel_rfl, by intro u hSu; have b0 := cell_below b0 hSu; have b3 := cell_below b3 hSu; go_simp⟩) hS ?_
          try simp only [Act.put, List.setIfInBounds_toArray, List.set_cons_zero, List.set_cons_succ]
          refine wpAnyE_takeD (L := 18) (i := 8) (v := .pointer (some ⟨B, 0, none⟩)) (some 62) rfl rfl (by kernel_rfl) (by kernel_rfl) (by kernel_rfl) (by kernel_rfl) (fun _ _ _ h => h) (Or.inl ⟨by kernel_rfl, by intro u hSu; have b0 := cell_below b0 hSu; have b3 := cell_below b3 hSu; go_simp⟩) hS ?_
          try simp only [Act.put, List.setIfInBounds_toArray, List.set_cons_zero, List.set_cons_succ]
          refine wpAnyE_takeD (L := 18) (i := 9) (v := .pointer (some ⟨B, 3, none⟩)) (some 63) rfl rfl (by kernel_rfl) (by kernel_rfl) (by kernel_rfl) (by kernel_rfl) (fun _ _ _ h => h) (Or.inl ⟨by kernel_rfl, by intro u hSu; have b0 := cell_below b0 hSu; have b3 := cell_below b3 hSu; go_simp⟩) hS ?_
          try simp only [Act.put, List.setIfInBounds_toArray, List.set_cons_zero, List.set_cons_succ]
          refine wpAnyE_takeD (L := 18) (i := 10) (v := .slice (some ⟨g, off, none⟩) q rc) (some 64) rfl rfl (by kernel_rfl) (by kernel_rfl) (by kernel_rfl) (by kernel_rfl) (fun _ _ _ h => h) (Or.inl ⟨by kernel_rfl, by intro u hSu; have b0 := cell_below b0 hSu; have b3 := cell_below b3 hSu; go_simp⟩) hS ?_
          try simp only [Act.put, List.setIfInBounds_toArray, List.set_cons_zero, List.set_cons_succ]
          refine wpAnyE_takeD (L := 18) (i := 11) (v := .int .i64 (l.length : Int)) (some 65) rfl rfl (by kernel_rfl) (by kernel_rfl) (by kernel_rfl) (by kernel_rfl) (fun _ _ _ h => h) (Or.inl ⟨by kernel_rfl, by intro u hSu; have b0 := cell_below b0 hSu; have b3 := cell_below b3 hSu; go_simp⟩) hS ?_
          try simp only [Act.put, List.setIfInBounds_toArray, List.set_cons_zero, List.set_cons_succ]
          refine wpAnyE_takeD (L := 18) (i := 12) (v := .int .i64 ((l.length : Int) + 1)) (some 66) rfl rfl (by kernel_rfl) (by kernel_rfl) (by kernel_rfl) (by kernel_rfl) (fun _ _ _ h => h) (Or.inl ⟨by kernel_rfl, by intro u hSu; have b0 := cell_below b0 hSu; have b3 := cell_below b3 hSu; go_simp⟩) hS ?_
          try simp only [Act.put, List.setIfInBounds_toArray, List.set_cons_zero, List.set_cons_succ]
          refine wpAnyE_takeD (L := 18) (i := 13) (v := .slice (some ⟨g, off + (l.length + 1) * 2, none⟩) (q - (l.length + 1)) (rc - (l.length + 1))) (some 67) rfl rfl (by kernel_rfl) (by kernel_rfl) (by kernel_rfl) (by kernel_rfl) (fun _ _ _ h => h) (Or.inl ⟨by kernel_rfl, by intro u hSu; have b0 := cell_below b0 hSu; have b3 := cell_below b3 hSu; go_simp⟩) hS ?_
          try simp only [Act.put, List.setIfInBounds_toArray, List.set_cons_zero, List.set_cons_succ]
          refine wpAnyE_ready (rs := [14]) (by kernel_rfl) (by simp) ?_
          refine AllReadyE.cons rfl (fun K9 hK => ?_) AllReadyE.nil
          go_simp
          refine hK.out _ _ (below_then hS (below_new _ _)) (fun hS9 => ?_)
          try simp only [Act.put, List.setIfInBounds_toArray, List.set_cons_zero, List.set_cons_succ]
          clear hK K9 hS
          have hS := hS9
          clear hS9
          refine wpAnyE_ready (rs := [15]) (by kernel_rfl) (by simp) ?_
          refine AllReadyE.cons rfl (fun K9 hK => ?_) AllReadyE.nil
          go_simp
          refine (joined2H_any l r (some ⟨g, off, none⟩) (some ⟨g, off + (l.length + 1) * 2, none⟩) l.length (q - (l.length + 1)) rc (rc - (l.length + 1)) W3.heap.size _ rfl HRL.out (by simp [*]) (by simp [*]) (HP1.out.below hS) (HP3.out.below hS) (by omega)).mono ?_
          rintro e w4 ⟨a3, c3, rfl, hb4, ho4⟩
          have hB4 : Below W3.heap.size W3 w4 := below_then hS hb4
          have hRD := HRP.out.del hB4 rfl (row_base ho4 (by simp))
          have bB := cell_below b3 hB4
          have fB : w4.frozen? ⟨B, 3, none⟩ = false := (World.frozen?_of_block (w := W3) (a := ⟨B, 3, none⟩) (hB4.block B (Go.block_lt_of_cell b0))).trans (HRP.out.frz 3)
          have HB4 : Hid (Below W3.heap.size W3 w4) := hB4
          have HRD : Hid (RpI W (w4.setCell ⟨B, 3, none⟩ (.slice a3 (l ++ r).length c3)) B nx ck tsl M a3 c3 (l ++ r).length (l ++ r)) := hRD
          clear hRD ho4 hB4
          refine hK.out _ _ (below_then hS hb4) (fun hS9 => ?_)
          try simp only [Act.put, List.setIfInBounds_toArray, List.set_cons_zero, List.set_cons_succ]
          clear hK K9 hS
          have hS := hS9
          clear hS9
          clear hb4
          refine wpAnyE_ready (rs := [16]) (by kernel_rfl) (by simp) ?_
          refine AllReadyE.cons rfl (fun K9 hK => ?_) AllReadyE.nil
          go_simp
          refine hK.out _ _ (hS) (fun hS9 => ?_)
          try simp only [Act.put, List.setIfInBounds_toArray, List.set_cons_zero, List.set_cons_succ]
          clear hK K9 hS
          have hS := hS9
          clear hS9
          refine wpAnyE_takeD (L := 18) (i := 17) (v := .pointer (some ⟨B, 3, none⟩)) (some 71) rfl rfl (by kernel_rfl) (by kernel_rfl) (by kernel_rfl) (by kernel_rfl) (fun _ _ _ h => h) (Or.inl ⟨by kernel_rfl, by intro u hSu; go_simp⟩) hS ?_
          try simp only [Act.put, List.setIfInBounds_toArray, List.set_cons_zero, List.set_cons_succ]
          refine wpAnyE_ready (rs := [18]) (by kernel_rfl) (by simp) ?_
          refine AllReadyE.last rfl (fun K9 hK => ?_)
          go_simp
          refine hK.out _ _ ?_
          try simp only [Act.put, List.setIfInBounds_toArray, List.set_cons_zero, List.set_cons_succ]
          clear hK K9 hS
          refine wpAnyE_done (by kernel_rfl) ?_ _
          go_simp
          go_wp2_with fail
          refine bodyPost_ret (results_none rfl _ _ _) rfl ?_
          refine ⟨rfl, (hKO3.out.trans (ko_below HB4.out)).trans (KeepsOthers.setCell _ _ _), a3, c3, l.length + r.length, ⟨⟨x0.t.key, x0.t.n - 1, fun i => x0.t.U (i + 1)⟩, A, cA, 0, 0⟩, by unfold tkR; rw [hu, if_neg (by simp)], ?_⟩
          rw [if_pos (by show x0.t.n - 1 = 0; have := HZ.out; omega), List.append_nil]
          have h9 := HRD.out
          simp only [List.length_append] at h9
          exact h9
      · have hzz : (((x0.t.n - 1 : Nat) : Int) == 0) = false := by simp; omega
        go_wp2_with fail
        refine bodyPost_ret (results_none rfl _ _ _) rfl ?_
        refine ⟨rfl, (ko_below HB2.out).trans (KeepsOthers.setCell _ _ _), some ⟨g, off, none⟩, rc, q, ⟨⟨x0.t.key, x0.t.n - 1, fun i => x0.t.U (i + 1)⟩, A, cA, (w1.alloc (.cells #[.slice (some ⟨cb, co + 4, none⟩) (x0.t.n - 1) (x0.c - 1)] 85)).heap.size, w2.heap.size⟩, by unfold tkR; rw [hu, if_neg (by simp)], ?_⟩
        rw [if_neg (by show ¬ x0.t.n - 1 = 0; omega), List.append_assoc]
        exact HRP.out
end Go.Proofs.YtabkgncnanlapaaGreat
