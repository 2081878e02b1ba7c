/- Draws: spec.DrawCrashLog. -/
import Derived.Test.YtapggckfacmklaaQDlh
namespace Go.Proofs.Ytapggckfacmklaa
open Go.RowKit Go.Deep
set_option linter.unusedVariables false
set_option linter.unusedSimpArgs false
set_option maxRecDepth 20000

/-- Bytes in a block from M on. -/
def La (M : Nat) (u : World) (a : Option Addr) (n : Nat) (z : Nat → Int) : Prop := n = 0 ∨ ∃ g off, a = some ⟨g, off, none⟩ ∧ M ≤ g ∧ g < u.heap.size ∧ ∀ i, i < n → u.cell? ⟨g, off + i, none⟩ = some (.int .u8 (z i))
theorem La.of {M : Nat} {u : World} {a : Option Addr} {n : Nat} {z : Nat → Int} (h : OwnB u M u.heap.size a n z) : La M u a n z := by
  obtain ⟨-, h | ⟨g, off, e, h1, h2, h3, -⟩⟩ := h
  · exact .inl h
  · exact .inr ⟨g, off, e, h1, h2, h3⟩
theorem La.at {M : Nat} {u : World} {a : Option Addr} {n : Nat} {z : Nat → Int} (h : La M u a n z) : BytesAt u a n z := by
  rcases h with h | ⟨g, off, e, -, h2, h3⟩
  · exact .inl h
  · exact .inr ⟨g, off, e, h2, h3⟩
theorem La.block {M : Nat} {u u2 : World} {a : Option Addr} {n : Nat} {z : Nat → Int} (h : La M u a n z) (hz : u.heap.size ≤ u2.heap.size) (e : ∀ q, M ≤ q → q < u.heap.size → u2.heap[q]? = u.heap[q]?) : La M u2 a n z := by
  rcases h with h | ⟨g, off, ea, h1, h2, h3⟩
  · exact .inl h
  · exact .inr ⟨g, off, ea, h1, by omega, fun i hi => (World.cell?_of_block (w := u) (a := ⟨g, off + i, none⟩) (e g h1 h2)).trans (h3 i hi)⟩
structure Ga (M : Nat) (u : World) (a1 : Option Addr) (n1 : Nat) (z1 : Nat → Int) (a2 : Option Addr) (n2 : Nat) (z2 : Nat → Int) : Prop where
  p : La M u a1 n1 z1
  q : La M u a2 n2 z2
section
variable {M : Nat} {u u2 : World} {a1 a2 : Option Addr} {n1 n2 : Nat} {z1 z2 : Nat → Int}
theorem Ga.block (h : Ga M u a1 n1 z1 a2 n2 z2) (hz : u.heap.size ≤ u2.heap.size) (e : ∀ q, M ≤ q → q < u.heap.size → u2.heap[q]? = u.heap[q]?) : Ga M u2 a1 n1 z1 a2 n2 z2 := ⟨h.p.block hz e, h.q.block hz e⟩
theorem Ga.below (h : Ga M u a1 n1 z1 a2 n2 z2) (hb : Below u.heap.size u u2) : Ga M u2 a1 n1 z1 a2 n2 z2 := h.block hb.size fun q _ hq => hb.block q hq
theorem Ga.dw {S : Nat} {a : Option Addr} {kk cap : Nat} {z : Nat → Int} {t : Nat} (h : Ga M u a1 n1 z1 a2 n2 z2) (hs : S < M) (d : Dw S a kk cap z t u u2) : Ga M u2 a1 n1 z1 a2 n2 z2 := h.block d.1.size fun q h1 hq => d.1.block q hq (by omega)
theorem Ga.set (h : Ga M u a1 n1 z1 a2 n2 z2) {B : Nat} (hB : B < M) (i : Nat) (x : Value) : Ga M (u.setCell ⟨B, i, none⟩ x) a1 n1 z1 a2 n2 z2 := h.block (by rw [size_set]; exact Nat.le_refl _) fun q h1 _ => set_at (by omega)
end
theorem below_dwL {w wr w2 : World} {S : Nat} {a : Option Addr} {kk cap : Nat} {z : Nat → Int} {t : Nat} (h : Below w.heap.size w wr) (hs : w.heap.size ≤ S) (d : Dw S a kk cap z t wr w2) : Below w.heap.size w w2 := by
  have h1 := d.1
  exact ⟨h1.os.trans h.os, h1.tape.trans h.tape, h1.output.trans h.output, Nat.le_trans h.size h1.size, fun b hbl => (h1.block b (Nat.lt_of_lt_of_le hbl h.size) (.inl (by omega))).trans (h.block b hbl)⟩
theorem box2_dw {wr w2 : World} {S : Nat} {a : Option Addr} {kk cap : Nat} {z : Nat → Int} {t : Nat} {B : Nat} {c0 c1 : Value} (h : Box2 wr B c0 c1) (hb : B ≠ S) (d : Dw S a kk cap z t wr w2) : Box2 w2 B c0 c1 := by
  have e := d.1.block B h.lt (by omega)
  exact ⟨(World.cell?_of_block (w := wr) (a := ⟨B, 0, none⟩) e).trans h.1, (World.cell?_of_block (w := wr) (a := ⟨B, 1, none⟩) e).trans h.2⟩
theorem box2_set2 {w : World} {V B : Nat} {c0 c1 u0 u1 : Value} (h : Box2 w V c0 c1) (hne : V ≠ B) : Box2 ((w.setCell ⟨B, 0, none⟩ u0).setCell ⟨B, 1, none⟩ u1) V c0 c1 := by
  have e : ∀ i, ((w.setCell ⟨B, 0, none⟩ u0).setCell ⟨B, 1, none⟩ u1).cell? ⟨V, i, none⟩ = w.cell? ⟨V, i, none⟩ := fun i => by
    rw [World.cell?_setCell_other _ _ _ _ (by simp [hne]), World.cell?_setCell_other _ _ _ _ (by simp [hne])]
  exact ⟨(e 0).trans h.1, (e 1).trans h.2⟩
def DrawClA (w : World) (e : Ending) (w' : World) : Prop := ∃ (a1 a2 : Option Addr) (n1 c1 n2 c2 : Nat) (z1 z2 : Nat → Int) (x : Int), e = .returned (.tuple #[.agg #[.slice a1 n1 c1, .slice a2 n2 c2], .int .i64 x]) ∧ n1 ≤ c1 ∧ n2 ≤ c2 ∧ Byt n1 z1 ∧ Byt n2 z2 ∧ n1 ≤ 4001 ∧ n2 ≤ 4002 ∧ BytesAt w' a1 n1 z1 ∧ BytesAt w' a2 n2 z2 ∧ Below w.heap.size w w'
set_option maxHeartbeats 16000000 in
theorem drawCl_any (a : Option Addr) (kk cap : Nat) (z : Nat → Int) (w : World) (hk : kk ≤ 1048576) (hz : Byt kk z) (h : BytesAt w a kk z) :
    Calls Try.prog 6 #[.slice a kk cap] w (DrawClA w) := by
  have HA : Hid (BytesAt w a kk z) := h
  have HZ : Hid (Byt kk z) := hz
  clear h hz
  go_enter Try.func6, Try.ntmps6
  go_wp2_with fail
  have BX := BxL.new w (.slice none 0 0) (.slice none 0 0) 25
  have HB : Hid (Below w.heap.size w (w.alloc (.cells #[.slice none 0 0, .slice none 0 0] 25))) := below_new _ _
  have HA0 : Hid (BytesAt (w.alloc (.cells #[.slice none 0 0, .slice none 0 0] 25)) a kk z) := HA.out.below (below_new _ _)
  obtain ⟨B, hB⟩ : ∃ B, B = w.heap.size := ⟨_, rfl⟩
  have HBW : Hid (w.heap.size ≤ B) := by show w.heap.size ≤ B; omega
  rw [← hB] at BX ⊢
  generalize (w.alloc (.cells #[.slice none 0 0, .slice none 0 0] 25)) = w0 at *
  have hBl : B < w0.heap.size := BX.lt
  refine (l1Source_any a kk cap z w0 hk HZ.out HA0.out).mono ?_
  rintro e w1 ⟨rfl, hb1, hs1, hsrc⟩
  obtain ⟨S, hS⟩ : ∃ S, S = w0.heap.size := ⟨_, rfl⟩
  rw [← hS] at hsrc ⊢
  have hw0 := HB.out.size
  have HSw : Hid (w.heap.size ≤ S) := by show w.heap.size ≤ S; omega
  have HBS : Hid (B ≠ S) := by show B ≠ S; omega
  have HSr : Hid (Src w1 S a kk cap z 0) := hsrc
  replace BX := BX.below hb1
  replace HB : Hid (Below w.heap.size w w1) := below_then HB.out hb1
  clear hsrc hS hB hs1 hb1 HA HA0 hw0 hBl HZ
  go_wp2_with fail
  refine (l3Log_any S a kk cap z w1 HSr.out).mono ?_
  rintro e w2 ⟨a1, a2, n1, c1, n2, c2, t', M, z1, z2, rfl, hM, o1, o2, k1, k2, b1, b2, m1, m2, hdw, ht'⟩
  have HSM : Hid (S < M) := by have := HSr.out.lt; show S < M; omega
  have HBM : Hid (B < M) := by have := BX.lt; show B < M; omega
  have HC : Hid (Ga M w2 a1 n1 z1 a2 n2 z2) := ⟨La.of o1, La.of o2⟩
  have HK : Hid (n1 ≤ c1 ∧ n2 ≤ c2 ∧ Byt n1 z1 ∧ Byt n2 z2 ∧ n1 ≤ 4001 ∧ n2 ≤ 4002) := ⟨k1, k2, b1, b2, m1, m2⟩
  have HM2 : Hid (n2 ≤ 4002) := m2
  have hw1 : IntKind.i64.wrap ((n2 : Int) + 1) = (n2 : Int) + 1 := by rw [IntKind.wrap_i64]; omega
  replace BX := BX.block (hdw.1.block B BX.lt (by have := HBS.out; omega))
  replace HB : Hid (Below w.heap.size w w2) := below_dwL HB.out HSw.out hdw
  obtain ⟨t, ht, HSr⟩ : ∃ t : Nat, t ≤ 400 ∧ Hid (Src w2 S a kk cap z t) := ⟨t', ht', hdw.2⟩
  clear o1 o2 k1 k2 b1 b2 m1 m2 hdw hM ht'
  go_upto_region 4 with fail
  obtain ⟨W, hW⟩ : ∃ y, y = w2.alloc (.cells #[.slice a1 n1 c1, .slice a2 n2 c2] 25) := ⟨_, rfl⟩
  have hb4 : Below w2.heap.size w2 W := by rw [hW]; exact below_new _ _
  have BV : Box2 W w2.heap.size (.slice a1 n1 c1) (.slice a2 n2 c2) := by rw [hW]; exact Box2.new _ _ _ _
  have hBl : B < w2.heap.size := BX.lt
  have hSl : S < w2.heap.size := HSr.out.lt
  have HVS : Hid (w2.heap.size ≠ S) := by show w2.heap.size ≠ S; omega
  have HNE : Hid (w2.heap.size ≠ B) := by show w2.heap.size ≠ B; omega
  replace BX := BX.below hb4
  replace HB : Hid (Below w.heap.size w W) := below_then HB.out hb4
  replace HC : Hid (Ga M W a1 n1 z1 a2 n2 z2) := HC.out.below hb4
  replace HSr : Hid (Src W S a kk cap z t) := HSr.out.below hb4
  rw [← hW]
  clear hW hb4 hBl hSl
  generalize w2.heap.size = Q at *
  refine wp_region_E 999 (S := fun u => Box2 u Q (.slice a1 n1 c1) (.slice a2 n2 c2)) (by kernel_rfl) BV (fun hS => ?_)
  obtain ⟨u0, hu0⟩ : ∃ y, y = W.drew := ⟨_, rfl⟩
  replace HB : Hid (Below w.heap.size w u0) := by rw [hu0]; exact HB.out.drew
  replace HC : Hid (Ga M u0 a1 n1 z1 a2 n2 z2) := by rw [hu0]; exact HC.out.below ((Below.refl _ _).drew)
  replace BX : BxL u0 B (.slice none 0 0) (.slice none 0 0) := by rw [hu0]; exact BX.below ((Below.refl _ _).drew)
  replace HSr : Hid (Src u0 S a kk cap z t) := by rw [hu0]; exact HSr.out.below ((Below.refl _ _).drew)
  rw [← hu0] at hS ⊢
  clear hu0 BV
  refine wpAnyE_takeD (L := 999) (i := 0) (v := .agg #[.slice a1 n1 c1, .slice a2 n2 c2]) (some 14) rfl rfl (by kernel_rfl) (by kernel_rfl) (by kernel_rfl) (by kernel_rfl) (fun _ _ _ h => h) (Or.inl ⟨by kernel_rfl, by intro u hSu; obtain ⟨h0, h1⟩ := hSu; go_simp⟩) hS ?_
  try simp only [Act.put, List.setIfInBounds_toArray, List.set_cons_zero, List.set_cons_succ]
  refine wpAnyE_takeD (L := 999) (i := 1) (v := .pointer (some ⟨S, 0, none⟩)) (some 15) rfl rfl (by kernel_rfl) (by kernel_rfl) (by kernel_rfl) (by kernel_rfl) (fun _ _ _ h => h) (Or.inl ⟨by kernel_rfl, by intro u hSu; go_simp⟩) hS ?_
  try simp only [Act.put, List.setIfInBounds_toArray, List.set_cons_zero, List.set_cons_succ]
  refine wpAnyE_takeD (L := 999) (i := 2) (v := .pointer (some ⟨S, 0, none⟩)) (some 16) rfl rfl (by kernel_rfl) (by kernel_rfl) (by kernel_rfl) (by kernel_rfl) (fun _ _ _ h => h) (Or.inl ⟨by kernel_rfl, by intro u hSu; go_simp⟩) hS ?_
  try simp only [Act.put, List.setIfInBounds_toArray, List.set_cons_zero, List.set_cons_succ]
  refine wpAnyE_takeD (L := 999) (i := 3) (v := .int .i64 (n2 : Int)) (some 17) rfl rfl (by kernel_rfl) (by kernel_rfl) (by kernel_rfl) (by kernel_rfl) (fun _ _ _ h => h) (Or.inl ⟨by kernel_rfl, by intro u hSu; go_simp⟩) hS ?_
  try simp only [Act.put, List.setIfInBounds_toArray, List.set_cons_zero, List.set_cons_succ]
  refine wpAnyE_takeD (L := 999) (i := 4) (v := .int .i64 ((n2 : Int) + 1)) (some 18) rfl rfl (by kernel_rfl) (by kernel_rfl) (by kernel_rfl) (by kernel_rfl) (fun _ _ _ h => h) (Or.inl ⟨by kernel_rfl, by intro u hSu; go_simp⟩) hS ?_
  try simp only [Act.put, List.setIfInBounds_toArray, List.set_cons_zero, List.set_cons_succ]
  refine wpAnyE_takeD (L := 999) (i := 6) (v := .pointer (some ⟨S, 0, none⟩)) (some 20) rfl rfl (by kernel_rfl) (by kernel_rfl) (by kernel_rfl) (by kernel_rfl) (fun _ _ _ h => h) (Or.inl ⟨by kernel_rfl, by intro u hSu; go_simp⟩) hS ?_
  try simp only [Act.put, List.setIfInBounds_toArray, List.set_cons_zero, List.set_cons_succ]
  refine wpAnyE_takeD (L := 999) (i := 7) (v := .int .i64 (n2 : Int)) (some 21) rfl rfl (by kernel_rfl) (by kernel_rfl) (by kernel_rfl) (by kernel_rfl) (fun _ _ _ h => h) (Or.inl ⟨by kernel_rfl, by intro u hSu; go_simp⟩) hS ?_
  try simp only [Act.put, List.setIfInBounds_toArray, List.set_cons_zero, List.set_cons_succ]
  refine wpAnyE_takeD (L := 999) (i := 8) (v := .int .i64 ((n2 : Int) + 1)) (some 22) rfl rfl (by kernel_rfl) (by kernel_rfl) (by kernel_rfl) (by kernel_rfl) (fun _ _ _ h => h) (Or.inl ⟨by kernel_rfl, by intro u hSu; go_simp⟩) hS ?_
  try simp only [Act.put, List.setIfInBounds_toArray, List.set_cons_zero, List.set_cons_succ]
  refine wpAnyE_takeD (L := 999) (i := 10) (v := .int .i64 (n2 : Int)) (some 24) rfl rfl (by kernel_rfl) (by kernel_rfl) (by kernel_rfl) (by kernel_rfl) (fun _ _ _ h => h) (Or.inl ⟨by kernel_rfl, by intro u hSu; go_simp⟩) hS ?_
  try simp only [Act.put, List.setIfInBounds_toArray, List.set_cons_zero, List.set_cons_succ]
  refine wpAnyE_takeD (L := 999) (i := 11) (v := .int .i64 (n2 : Int)) (some 25) rfl rfl (by kernel_rfl) (by kernel_rfl) (by kernel_rfl) (by kernel_rfl) (fun _ _ _ h => h) (Or.inl ⟨by kernel_rfl, by intro u hSu; go_simp⟩) hS ?_
  try simp only [Act.put, List.setIfInBounds_toArray, List.set_cons_zero, List.set_cons_succ]
  refine wpAnyE_takeD (L := 999) (i := 12) (v := .int .i64 ((n2 : Int) + 1)) (some 26) rfl rfl (by kernel_rfl) (by kernel_rfl) (by kernel_rfl) (by kernel_rfl) (fun _ _ _ h => h) (Or.inl ⟨by kernel_rfl, by intro u hSu; go_simp⟩) hS ?_
  try simp only [Act.put, List.setIfInBounds_toArray, List.set_cons_zero, List.set_cons_succ]
  refine wpAnyE_ready (rs := [5]) (by kernel_rfl) (by simp) ?_
  refine AllReadyE.cons rfl (fun K9 hK => ?_) AllReadyE.nil
  go_simp
  refine (l1Next_any S a kk cap z (t) ((n2 : Int) + 1) u0 (by omega) (by have := HM2.out; omega) HSr.out).mono ?_
  rintro e u1 ⟨v1, rfl, -, hn⟩
  have hd := hn.dw
  replace HB : Hid (Below w.heap.size w u1) := below_dwL HB.out HSw.out hd
  replace HC : Hid (Ga M u1 a1 n1 z1 a2 n2 z2) := HC.out.dw HSM.out hd
  replace BX : BxL u1 B (.slice none 0 0) (.slice none 0 0) := BX.block (hd.1.block B BX.lt (by have := HBS.out; omega))
  replace HSr : Hid (Src u1 S a kk cap z (t + 1)) := hd.2
  refine hK.out _ _ (box2_dw hS HVS.out hd) (fun hS9 => ?_)
  try simp only [Act.put, List.setIfInBounds_toArray, List.set_cons_zero, List.set_cons_succ]
  clear hK K9 hS
  have hS := hS9
  clear hS9
  clear hn hd
  refine wpAnyE_ready (rs := [9]) (by kernel_rfl) (by simp) ?_
  refine AllReadyE.cons rfl (fun K9 hK => ?_) AllReadyE.nil
  go_simp
  refine (l1Next_any S a kk cap z (t + 1) ((n2 : Int) + 1) u1 (by omega) (by have := HM2.out; omega) HSr.out).mono ?_
  rintro e u2 ⟨v2, rfl, -, hn⟩
  have hd := hn.dw
  replace HB : Hid (Below w.heap.size w u2) := below_dwL HB.out HSw.out hd
  replace HC : Hid (Ga M u2 a1 n1 z1 a2 n2 z2) := HC.out.dw HSM.out hd
  replace BX : BxL u2 B (.slice none 0 0) (.slice none 0 0) := BX.block (hd.1.block B BX.lt (by have := HBS.out; omega))
  replace HSr : Hid (Src u2 S a kk cap z (t + 1 + 1)) := hd.2
  refine hK.out _ _ (box2_dw hS HVS.out hd) (fun hS9 => ?_)
  try simp only [Act.put, List.setIfInBounds_toArray, List.set_cons_zero, List.set_cons_succ]
  clear hK K9 hS
  have hS := hS9
  clear hS9
  clear hn hd
  obtain ⟨F1, hF1⟩ : ∃ F : Nat → Int, F = fun i => if i = 0 then v1 else if i = 1 then v2 else if i = 2 then 0 else if i = 3 then (n2 : Int) else if i = 4 then ((n2 : Int) + 1) else (-1) := ⟨_, rfl⟩
  refine wpAnyE_ready (rs := [13]) (by kernel_rfl) (by simp) ?_
  refine AllReadyE.cons rfl (fun K9 hK => ?_) AllReadyE.nil
  go_simp
  obtain ⟨u3, hW⟩ : ∃ y, y = u2.alloc (.cells #[.int .i64 v1, .int .i64 v2, .int .i64 0, .int .i64 (n2 : Int), .int .i64 ((n2 : Int) + 1), .int .i64 (-1)] 2) := ⟨_, rfl⟩
  have hb : Below u2.heap.size u2 u3 := by rw [hW]; exact below_new _ _
  have hcl : ∀ i, i < 6 → u3.cell? ⟨u2.heap.size, 0 + i, none⟩ = some (.int .i64 (F1 i)) := fun i hi => by
    rw [hW]
    rcases i with - | - | - | - | - | - | i
    · simp [go_sem, hF1]
    · simp [go_sem, hF1]
    · simp [go_sem, hF1]
    · simp [go_sem, hF1]
    · simp [go_sem, hF1]
    · simp [go_sem, hF1]
    · omega
  have hbl : u2.heap.size < u3.heap.size := by rw [hW]; simp
  have hbs : u2.heap.size ≠ S := by have := HSr.out.lt; omega
  replace HB : Hid (Below w.heap.size w u3) := below_then HB.out hb
  replace HC : Hid (Ga M u3 a1 n1 z1 a2 n2 z2) := HC.out.below hb
  replace BX : BxL u3 B (.slice none 0 0) (.slice none 0 0) := BX.below hb
  replace HSr : Hid (Src u3 S a kk cap z (t + 1 + 1)) := HSr.out.below hb
  have hS8 := hS.below hb
  rw [← hW]
  clear hW hb
  generalize u2.heap.size = D1 at *
  refine hK.out _ _ (hS8) (fun hS9 => ?_)
  try simp only [Act.put, List.setIfInBounds_toArray, List.set_cons_zero, List.set_cons_succ]
  clear hK K9 hS
  have hS := hS9
  clear hS9
  clear hS8 hF1
  refine wpAnyE_ready (rs := [14]) (by kernel_rfl) (by simp) ?_
  refine AllReadyE.cons rfl (fun K9 hK => ?_) AllReadyE.nil
  go_simp
  refine (l1Pick_any S a kk cap z (t + 1 + 1) D1 0 6 6 F1 u3 (by omega) (by omega) (by omega) hbs hbl hcl HSr.out).mono ?_
  rintro e ue ⟨i, hi, rfl, hn⟩
  have hd := hn.dw
  replace HB : Hid (Below w.heap.size w ue) := below_dwL HB.out HSw.out hd
  replace HC : Hid (Ga M ue a1 n1 z1 a2 n2 z2) := HC.out.dw HSM.out hd
  replace BX : BxL ue B (.slice none 0 0) (.slice none 0 0) := BX.block (hd.1.block B BX.lt (by have := HBS.out; omega))
  replace HSr : Hid (Src ue S a kk cap z (t + 1 + 1 + 1)) := hd.2
  refine hK.out _ _ (box2_dw hS HVS.out hd) (fun hS9 => ?_)
  try simp only [Act.put, List.setIfInBounds_toArray, List.set_cons_zero, List.set_cons_succ]
  clear hK K9 hS
  have hS := hS9
  clear hS9
  clear hn hd
  generalize F1 i = x at *
  clear hi hcl hbl hbs
  refine wpAnyE_ready (rs := [15]) (by kernel_rfl) (by simp) ?_
  refine AllReadyE.cons rfl (fun K9 hK => ?_) AllReadyE.nil
  obtain ⟨q0, q1, qf⟩ := BX
  have hSs := hS
  go_simp
  refine hK.out _ _ (box2_set2 hSs HNE.out) (fun hS9 => ?_)
  try simp only [Act.put, List.setIfInBounds_toArray, List.set_cons_zero, List.set_cons_succ]
  clear hK K9 hS
  have hS := hS9
  clear hS9
  refine wpAnyE_takeD (L := 999) (i := 16) (v := .int .i64 x) (some 3) rfl rfl (by kernel_rfl) (by kernel_rfl) (by kernel_rfl) (by kernel_rfl) (fun _ _ _ h => h) (Or.inl ⟨by kernel_rfl, by intro u hSu; go_simp⟩) hS ?_
  try simp only [Act.put, List.setIfInBounds_toArray, List.set_cons_zero, List.set_cons_succ]
  refine wpAnyE_done (by kernel_rfl) ?_ _
  go_simp
  have HF : Hid (∀ u0 u1 : Value, Ga M ((ue.setCell ⟨B, 0, none⟩ u0).setCell ⟨B, 1, none⟩ u1) a1 n1 z1 a2 n2 z2 ∧ Below w.heap.size w ((ue.setCell ⟨B, 0, none⟩ u0).setCell ⟨B, 1, none⟩ u1)) := fun u0 u1 => ⟨(HC.out.set HBM.out 0 u0).set HBM.out 1 u1, (HB.out.setCell (p := ⟨B, 0, none⟩) HBW.out _).setCell (p := ⟨B, 1, none⟩) HBW.out _⟩
  clear HC HB hS hSs
  go_wp2_with fail
  obtain ⟨k1, k2, b1, b2, m1, m2⟩ := HK.out
  exact bodyPost_ret (v := .tuple #[.agg #[.slice a1 n1 c1, .slice a2 n2 c2], .int .i64 x]) (by simp [results, Try.results6, go_sem, *]) rfl ⟨a1, a2, n1, c1, n2, c2, z1, z2, x, rfl, k1, k2, b1, b2, m1, m2, (HF.out _ _).1.p.at, (HF.out _ _).1.q.at, (HF.out _ _).2⟩
end Go.Proofs.Ytapggckfacmklaa
