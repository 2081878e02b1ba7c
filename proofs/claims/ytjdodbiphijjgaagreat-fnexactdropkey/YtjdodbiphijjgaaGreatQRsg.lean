/- impl.writeCell: what is answered, as a function; the program. -/
import Derived.Test.YtjdodbiphijjgaaGreatQRsf
import Derived.Test.YtjdodbiphijjgaaGreatQRqe
import Derived.Test.YtjdodbiphijjgaaGreatQCa
import Derived.Test.YtjdodbiphijjgaaGreatQGg
import Derived.Test.YtjdodbiphijjgaaGreatQKa
import Derived.Test.YtjdodbiphijjgaaGreatQNb
import Derived.Test.YtjdodbiphijjgaaGreatQKc
namespace Go.Proofs.YtjdodbiphijjgaaGreat
open Go.RowKit Go.Deep
set_option linter.unusedVariables false
set_option linter.unusedSimpArgs false
set_option maxRecDepth 20000

/-- How many rows are ahead of a key. -/
def plN (R : Nat → Rw) (key : Int) : Nat → Nat
  | 0 => 0
  | q + 1 => if (R q).key < key then q + 1 else plN R key q
theorem plN_of {R : Nat → Rw} {key : Int} : ∀ {q i : Nat}, Pl q R key i → i = plN R key q
  | 0, i, h => by have := h.1; simp only [plN]; omega
  | q + 1, i, ⟨h1, h2, h3⟩ => by
    rw [plN]
    by_cases hk : (R q).key < key
    · rw [if_pos hk]
      by_cases e : i = q + 1
      · exact e
      · have := h3 q (by omega) (Nat.lt_succ_self q); omega
    · rw [if_neg hk]
      have hi : i ≤ q := by
        by_cases e : i = q + 1
        · have := h2 q (by omega); omega
        · omega
      exact plN_of ⟨hi, h2, fun x hx hq => h3 x hx (by omega)⟩
/-- The rows in which a key has a chain. -/
def wrL (E : En) (key : Int) (m : Nat) (S : Nat → Vr) : List Rw := skL (plF E.q E.R key (plN E.R key E.q)) (plN E.R key E.q) ⟨key, m, S⟩ (rwL E)
/-- The engine in which the j-th transaction has written. -/
def wrE (E : En) (j : Nat) (key v : Int) (g : Bool) : En :=
  ⟨E.nx, E.ck, E.p, upf E.T j ⟨(E.T j).id, (E.T j).am, (E.T j).st, (E.T j).dn, (E.T j).n + 1, upf (E.T j).U (E.T j).n (uoF (ckN E key) (ckU E key) (E.T j).id key)⟩,
    (wrL E key (pvN (ckN E key) (ckU E key) (E.T j).am (E.T j).id g v) (pvS (ckN E key) (ckU E key) (E.T j).id g v)).length, fun x => (wrL E key (pvN (ckN E key) (ckU E key) (E.T j).am (E.T j).id g v) (pvS (ckN E key) (ckU E key) (E.T j).id g v)).getD x zRw⟩
def wcC (E : En) (id key v : Int) (g : Bool) : Int := if askC E id = 0 then (if inB key 0 31 = true then (if inB v 0 9999 = true then cwC E (askP E id).toNat key v g else 3) else 3) else askC E id
def wcE (E : En) (id key v : Int) (g : Bool) : En := if wcC E id key v g = 0 then wrE E (askP E id).toNat key v g else zEn
theorem wc_bad {E : En} {id key v : Int} {g : Bool} {c : Int} (h : wcC E id key v g = c) (hc : c ≠ 0) : wcE E id key v g = zEn := if_neg (by rw [h]; exact hc)
theorem bool_orW (c : Bool) : c = true ∨ c = false := by cases c <;> simp
theorem OwnTxP.lim {w : World} {P : Nat → Prop} {a : Option Addr} {n : Nat} {T : Nat → Tx} (h : OwnTxP w P a n T) : OwnTxP w (fun x => P x ∧ x < w.heap.size) a n T := by
  obtain h9 | ⟨b, off, ha, hp, hl, hf, l, h, hd, hc⟩ := h
  · exact .inl h9
  · refine .inr ⟨b, off, ha, ⟨hp, hl⟩, hl, hf, l, h, hd, fun i hi => ?_⟩
    obtain ⟨k0, k1, ai, ci, k2, k3, k4⟩ := hc i hi
    exact ⟨k0, fun x h1 h2 => ⟨k1 x h1 h2, by have := k4.1; omega⟩, ai, ci, k2, k3, k4⟩
theorem OwnRwP.lim {w : World} {P : Nat → Prop} {a : Option Addr} {n : Nat} {T : Nat → Rw} (h : OwnRwP w P a n T) : OwnRwP w (fun x => P x ∧ x < w.heap.size) a n T := by
  obtain h9 | ⟨b, off, ha, hp, hl, hf, l, h, hd, hc⟩ := h
  · exact .inl h9
  · refine .inr ⟨b, off, ha, ⟨hp, hl⟩, hl, hf, l, h, hd, fun i hi => ?_⟩
    obtain ⟨k0, k1, ai, ci, k2, k3, k4⟩ := hc i hi
    exact ⟨k0, fun x h1 h2 => ⟨k1 x h1 h2, by have := k4.1; omega⟩, ai, ci, k2, k3, k4⟩
/-- What is refused at the door. -/
theorem refused_door {E : En} {id key v : Int} {g : Bool} {c : Int} {w W : World} {R0 : Nat} (tmps : Array Value) (ht : tmps[8]? = some (.pointer (some ⟨R0, 0, none⟩))) (hR : w.heap.size ≤ R0) (hB : Below w.heap.size w W) (hz : Box6 W (R0) (.int .i64 0) (.int .i64 0) (.int .i64 0) (.int .i64 0) (.slice none 0 0) (.slice none 0 0)) (hf : ∀ i, W.frozen? ⟨R0, i, none⟩ = false) (hc : wcC E id key v g = c) (h0 : c ≠ 0) :
    Leaves Tryz.prog Tryz.f66 tmps (ERes2 (wcC E id key v g) 0 (wcE E id key v g) w) [{ target := .fn (.func 118) #[.pointer (some ⟨R0, 0, none⟩)], args := #[] }] (.panicking [{ v := .iface 185 (.int .i64 c), recovered := false }]) W := by
  refine leaves_cons (f := 118) (args := #[.pointer (some ⟨R0, 0, none⟩)]) (by simp) (by simp [go_sem]) ?_
  refine (refD_bad (R0) c W hf hz).mono ?_
  rintro e u' w4 ⟨rfl, rfl, hw4, hz4, hb4⟩
  obtain ⟨r0, r1, r2, r3, r4, r5⟩ := hb4
  refine ⟨.agg #[.int .i64 c, .int .i64 0, .int .i64 0, .int .i64 0, .slice none 0 0, .slice none 0 0], ?_, ?_⟩
  · simp [results, Tryz.results66, go_sem, *]
  · rw [hc, wc_bad hc h0]
    exact eres_bad2 (hw4.below hB (by omega))
set_option maxHeartbeats 16000000 in
theorem writeCell_any (E : En) (a : Option Addr) (cap : Nat) (a' : Option Addr) (cap' : Nat) (id key v : Int) (g : Bool) (w : World) (hs : SmallE E) (h : EngAt w a a' E) :
    Calls Tryz.prog 66 #[.agg #[.int .i64 E.nx, .int .i64 E.ck, .slice a E.p cap, .slice a' E.q cap'], .int .i64 id, .agg #[.int .i64 key, .int .i64 v], .bool g] w (ERes2 (wcC E id key v g) 0 (wcE E id key v g) w) := by
  have HXA : Hid (EngAt w a a' E) := h
  have HS : Hid (SmallE E) := hs
  have hmf : ∀ (fn : Fn) (first cap : Array Value) (w : World), (Instr.makeFunc fn first cap).run Tryz.prog w = .ok (.func fn first cap) w := fun _ _ _ _ => rfl
  clear h hs
  have HBX : Hid (∀ o1 o2 o3 : Obj, o1 = .cells #[.int .i64 E.nx, .int .i64 E.ck, .slice a E.p cap, .slice a' E.q cap'] 30 → o2 = .cells #[.int .i64 key, .int .i64 v] 114 → o3 = .cells #[.int .i64 0, .int .i64 0, .int .i64 0, .int .i64 0, .slice none 0 0, .slice none 0 0] 32 →
      Box4 (((w.alloc o1).alloc o2).alloc o3) w.heap.size (.int .i64 E.nx) (.int .i64 E.ck) (.slice a E.p cap) (.slice a' E.q cap') ∧ Box2 (((w.alloc o1).alloc o2).alloc o3) (w.heap.size + 1) (.int .i64 key) (.int .i64 v) ∧ Box6 (((w.alloc o1).alloc o2).alloc o3) (w.heap.size + 1 + 1) (.int .i64 0) (.int .i64 0) (.int .i64 0) (.int .i64 0) (.slice none 0 0) (.slice none 0 0) ∧ (∀ i, (((w.alloc o1).alloc o2).alloc o3).frozen? ⟨w.heap.size + 1 + 1, i, none⟩ = false) ∧ Below w.heap.size w (((w.alloc o1).alloc o2).alloc o3) ∧ (((w.alloc o1).alloc o2).alloc o3).heap.size = w.heap.size + 3) := by
    rintro o1 o2 o3 rfl rfl rfl
    exact ⟨((Box4.new w _ _ _ _ _).alloc _).alloc _, by simp [Box2, go_sem], by simp [Box6, go_sem], fun i => by simp [go_sem], (((Below.refl _ _).alloc (Nat.le_refl _) _).alloc (by simp) _).alloc (by simp; omega) _, by simp⟩
  go_enter_defers Tryz.func66, Tryz.ntmps66
  go_wp2_with fail
  obtain ⟨hb4, hbk, hb6, hbf, hbw, hbs⟩ := HBX.out _ _ _ rfl rfl rfl
  refine (placeOfOpen_any E a cap a' cap' id _ HS.out (HXA.out.below hbw)).mono ?_
  rintro e W ⟨rfl, hb1⟩
  have HB4 : Hid (Box4 W w.heap.size (.int .i64 E.nx) (.int .i64 E.ck) (.slice a E.p cap) (.slice a' E.q cap')) := hb4.below hb1
  have HBK : Hid (Box2 W (w.heap.size + 1) (.int .i64 key) (.int .i64 v)) := hbk.below hb1
  have HR6 : Hid (Box6 W (w.heap.size + 1 + 1) (.int .i64 0) (.int .i64 0) (.int .i64 0) (.int .i64 0) (.slice none 0 0) (.slice none 0 0)) := hb6.below hb1
  have HRF : Hid (∀ i, W.frozen? ⟨w.heap.size + 1 + 1, i, none⟩ = false) := fun i => ((bcell2 hb1).2 _ _ (by rw [hbs]; omega)).trans (hbf i)
  have HBW : Hid (Below w.heap.size w W) := below_then hbw hb1
  have HS1 : Hid (w.heap.size + 3 ≤ W.heap.size) := by have := hb1.size; rw [hbs] at this; exact this
  clear hb1 hb4 hbk hb6 hbf hbw hbs HBX
  go_wp2_with fail
  refine (refuse_any _ _).mono ?_
  rintro e W2 ⟨hc | hc, hw2⟩
  case inr =>
    obtain ⟨hc, rfl⟩ := hc
    obtain rfl := hw2.symm
    have hC : wcC E id key v g = askC E id := if_neg hc
    exact refused_door _ rfl (by omega) HBW.out HR6.out HRF.out hC hc
  obtain ⟨hc, rfl⟩ := hc
  obtain rfl := hw2.symm
  obtain ⟨h0, j, hj, hp, hid⟩ := ask_open hc
  have HEX : Hid (EngAt W a a' E) := HXA.out.below HBW.out
  have HH0 : Hid (eF E = 0) := h0
  have HHC : Hid (askC E id = 0) := hc
  have HHP : Hid ((askP E id).toNat = j) := by rw [Hid, hp, Int.toNat_natCast]
  obtain ⟨b0, b1, b2, b3⟩ := HB4.out
  obtain ⟨k0, k1⟩ := HBK.out
  rw [hc, hp]
  clear hc hp h0 hid
  go_wp2_with fail
  refine (isKey_any key _).mono ?_
  rintro e W2 ⟨rfl, hw2⟩
  obtain rfl := hw2.symm
  rcases (bool_orW (inB key 0 31)).symm with hk | hk
  · have hC : wcC E id key v g = 3 := by unfold wcC; rw [if_pos HHC.out, hk, if_neg (by decide)]
    have HDR : Hid (∀ (tmps : Array Value), tmps[8]? = some (.pointer (some ⟨w.heap.size + 1 + 1, 0, none⟩)) → Leaves Tryz.prog Tryz.f66 tmps (ERes2 (wcC E id key v g) 0 (wcE E id key v g) w) [{ target := .fn (.func 118) #[.pointer (some ⟨w.heap.size + 1 + 1, 0, none⟩)], args := #[] }] (.panicking [{ v := .iface 185 (.int .i64 3), recovered := false }]) W) := fun tmps ht => refused_door tmps ht (by omega) HBW.out HR6.out HRF.out hC (by decide)
    rw [hk]
    clear hk hC
    go_wp2_with fail
    refine (refuse_any _ _).mono ?_
    rintro e W2 ⟨hc | hc, hw2⟩
    · exact absurd hc.1 (by decide)
    · obtain ⟨-, rfl⟩ := hc
      obtain rfl := hw2.symm
      exact HDR.out _ rfl
  have HKY : Hid (inB key 0 31 = true) := hk
  rw [hk]
  clear hk
  go_wp2_with fail
  refine (isValue_any v _).mono ?_
  rintro e W2 ⟨rfl, hw2⟩
  obtain rfl := hw2.symm
  rcases (bool_orW (inB v 0 9999)).symm with hk | hk
  · have hC : wcC E id key v g = 3 := by unfold wcC; rw [if_pos HHC.out, HKY.out, if_pos rfl, hk, if_neg (by decide)]
    have HDR : Hid (∀ (tmps : Array Value), tmps[8]? = some (.pointer (some ⟨w.heap.size + 1 + 1, 0, none⟩)) → Leaves Tryz.prog Tryz.f66 tmps (ERes2 (wcC E id key v g) 0 (wcE E id key v g) w) [{ target := .fn (.func 118) #[.pointer (some ⟨w.heap.size + 1 + 1, 0, none⟩)], args := #[] }] (.panicking [{ v := .iface 185 (.int .i64 3), recovered := false }]) W) := fun tmps ht => refused_door tmps ht (by omega) HBW.out HR6.out HRF.out hC (by decide)
    rw [hk]
    clear hk hC
    go_wp2_with fail
    refine (refuse_any _ _).mono ?_
    rintro e W2 ⟨hc | hc, hw2⟩
    · exact absurd hc.1 (by decide)
    · obtain ⟨-, rfl⟩ := hc
      obtain rfl := hw2.symm
      exact HDR.out _ rfl
  have hC0 : wcC E id key v g = cwC E j key v g := by unfold wcC; rw [if_pos HHC.out, HKY.out, if_pos rfl, hk, if_pos rfl, HHP.out]
  have HCC : Hid (wcC E id key v g = cwC E j key v g) := hC0
  rw [hk]
  clear hk hC0
  go_wp2_with fail
  refine (chainTo_any E a cap a' cap' j key v g _ HH0.out hj HEX.out).mono ?_
  rintro e W2 (⟨hc, ai, ci, rfl, hsh, hb2, ho⟩ | ⟨hc, rfl, hb2⟩)
  case inr =>
    exact refused_door _ rfl (by omega) (below_then HBW.out hb2) (HR6.out.below hb2) (fun i => ((bcell2 hb2).2 _ _ (by have := HS1.out; omega)).trans (HRF.out i)) HCC.out hc
  have HC0 : Hid (cwC E j key v g = 0) := hc
  have HB2 : Hid (Below W.heap.size W W2) := hb2
  have HSH : Hid (ShA ai (pvN (ckN E key) (ckU E key) (E.T j).am (E.T j).id g v) ci) := hsh
  have HO2 : Hid (Own4 W2 W.heap.size W2.heap.size ai (pvN (ckN E key) (ckU E key) (E.T j).am (E.T j).id g v) (pvS (ckN E key) (ckU E key) (E.T j).id g v)) := ho
  have HN60 : Hid ((E.T j).n ≠ 60) := by
    show _ ≠ _
    intro e
    have h := HC0.out
    unfold cwC at h
    split at h
    · rename_i h1; exact absurd h h1.2
    · split at h
      · rename_i h1; exact absurd h h1
      · exact absurd h (by decide)
  have HEX2 : Hid (EngAt W2 a a' E) := HEX.out.below HB2.out
  replace b0 := cell_below b0 hb2
  replace b1 := cell_below b1 hb2
  replace b2 := cell_below b2 hb2
  replace b3 := cell_below b3 hb2
  replace k0 := cell_below k0 hb2
  replace k1 := cell_below k1 hb2
  have HW : Hid (Calls Tryz.prog 122 #[.agg #[.int .i64 E.nx, .int .i64 E.ck, .slice a E.p cap, .slice a' E.q cap'], .int .i64 j, .int .i64 key, .slice ai (pvN (ckN E key) (ckU E key) (E.T j).am (E.T j).id g v) ci] W2 (WwA E j key (pvN (ckN E key) (ckU E key) (E.T j).am (E.T j).id g v) (pvS (ckN E key) (ckU E key) (E.T j).id g v) W.heap.size W2.heap.size W2)) :=
    withWrite_any E a cap a' cap' j key ai ci _ _ _ _ W2 HH0.out hj HEX2.out HO2.out HSH.out.1 HN60.out
  have HGE : Hid (wcE E id key v g = wrE E j key v g) := by
    show _ = _
    unfold wcE
    rw [if_pos (by rw [HCC.out]; exact HC0.out), HHP.out]
  clear hc hb2 hsh ho HO2 HSH HN60
  have HWR : Hid (wrE E j key v g = ⟨E.nx, E.ck, E.p, upf E.T j ⟨(E.T j).id, (E.T j).am, (E.T j).st, (E.T j).dn, (E.T j).n + 1, upf (E.T j).U (E.T j).n (uoF (ckN E key) (ckU E key) (E.T j).id key)⟩,
    (wrL E key (pvN (ckN E key) (ckU E key) (E.T j).am (E.T j).id g v) (pvS (ckN E key) (ckU E key) (E.T j).id g v)).length, fun x => (wrL E key (pvN (ckN E key) (ckU E key) (E.T j).am (E.T j).id g v) (pvS (ckN E key) (ckU E key) (E.T j).id g v)).getD x zRw⟩) := rfl
  generalize pvN (ckN E key) (ckU E key) (E.T j).am (E.T j).id g v = m at *
  generalize pvS (ckN E key) (ckU E key) (E.T j).id g v = S at *
  go_wp2_with fail
  refine HW.out.mono ?_
  rintro e W3 ⟨i, a2, c2, a3, c3, hpl, rfl, hb3, P1, P2, hP1, hP2, hPP, hT, hR⟩
  obtain rfl := plN_of hpl
  replace hT := OwnTxP.lim hT
  replace hR := OwnRwP.lim hR
  have HF : Hid (∀ w7, Writes (w.heap.size + 1 + 1) (w.heap.size + 1 + 2) W3 w7 → w7.heap.size = W3.heap.size → ERes2 (wcC E id key v g) 0 (wcE E id key v g) w (.returned (.agg #[.int .i64 0, .int .i64 0, .int .i64 E.nx, .int .i64 E.ck, .slice a2 E.p c2, .slice a3 (wrL E key m S).length c3])) w7) := fun w7 hw hz => by
    have h1 := HS1.out
    have h2 := HB2.out.size
    rw [HCC.out, HC0.out, HGE.out, HWR.out]
    refine ⟨a2, c2, a3, c3, rfl, Writes.below (below_then (below_then HBW.out HB2.out) hb3) hw (by omega), Nat.le_refl _, fun x => P1 x ∧ x < W3.heap.size, fun x => P2 x ∧ x < W3.heap.size, fun x hx => ?_, fun x hx => ?_, fun x h1 h2 => hPP x h1.1 h2.1, ?_, ?_⟩
    · have := hP1 x hx.1; have := hx.2; omega
    · have := hP2 x hx.1; have := hx.2; omega
    · exact OwnTxP.keep hT hw.size fun x hx hl => hw.block x hl (by have := hP1 x hx.1; omega)
    · exact OwnRwP.keep hR hw.size fun x hx hl => hw.block x hl (by have := hP2 x hx.1; omega)
  have HB3 : Hid (Below W2.heap.size W2 W3) := hb3
  obtain ⟨r0, r1, r2, r3, r4, r5⟩ := (HR6.out.below HB2.out).below hb3
  have rf : ∀ i, W3.frozen? ⟨w.heap.size + 1 + 1, i, none⟩ = false := fun i => ((bcell2 hb3).2 _ _ (by have := HS1.out; have := HB2.out.size; omega)).trans (((bcell2 HB2.out).2 _ _ (by have := HS1.out; omega)).trans (HRF.out i))
  have HLN : Hid ((skL (plF E.q E.R key (plN E.R key E.q)) (plN E.R key E.q) ⟨key, m, S⟩ (rwL E)).length = (wrL E key m S).length) := rfl
  rw [HLN.out]
  clear HLN hb3 hP1 hP2 hPP hT hR b0 b1 b2 b3 k0 k1 HW hpl
  generalize (wrL E key m S).length = ln at *
  go_wp2_with fail
  refine leaves_cons (f := 118) (args := #[.pointer (some ⟨w.heap.size + 1 + 1, 0, none⟩)]) (by simp) (by simp [go_sem]) ?_
  refine (refD_idle (w.heap.size + 1 + 1) _).mono ?_
  rintro e u9 w9 ⟨rfl, rfl, rfl⟩
  refine ⟨.agg #[.int .i64 0, .int .i64 0, .int .i64 E.nx, .int .i64 E.ck, .slice a2 E.p c2, .slice a3 ln c3], ?_, ?_⟩
  · simp [results, Tryz.results66, go_sem, *]
  · refine HF.out _ ?_ (by simp [World.setCell])
    repeat (first | with_reducible exact Writes.refl _ _ _ | with_reducible refine Writes.setCell ?_ (by first | omega | (simp <;> omega)) (by first | omega | (simp <;> omega)) _)
theorem eres_wide {w : World} {lo hi lo' hi' : Nat} {a a' : Option Addr} {E : En} (h : OwnE2 w lo hi a a' E) (h1 : lo' ≤ lo) (h2 : hi ≤ hi') (h3 : hi' ≤ w.heap.size) : OwnE2 w lo' hi' a a' E := by
  obtain ⟨h0, P, Q, k1, k2, k3, k4, k5⟩ := h
  exact ⟨h3, P, Q, fun x hx => by have := k1 x hx; omega, fun x hx => by have := k2 x hx; omega, k3, k4, k5⟩
set_option maxHeartbeats 4000000 in
theorem implPk_any (E : En) (a : Option Addr) (cap : Nat) (a' : Option Addr) (cap' : Nat) (id key v : Int) (w : World) (hs : SmallE E) (h : EngAt w a a' E) :
    Calls Tryz.prog 12 #[.agg #[.int .i64 E.nx, .int .i64 E.ck, .slice a E.p cap, .slice a' E.q cap'], .int .i64 id, .int .i64 key, .int .i64 v] w (ERes2 (wcC E id key v false) 0 (wcE E id key v false) w) := by
  have HXA : Hid (EngAt w a a' E) := h
  have HS : Hid (SmallE E) := hs
  clear h hs
  have HBX : Hid (∀ o1 o2 : Obj, o1 = .cells #[.int .i64 E.nx, .int .i64 E.ck, .slice a E.p cap, .slice a' E.q cap'] 30 → o2 = .cells #[.int .i64 0, .int .i64 0, .int .i64 0, .int .i64 0, .slice none 0 0, .slice none 0 0] 32 →
      Box4 ((w.alloc o1).alloc o2) w.heap.size (.int .i64 E.nx) (.int .i64 E.ck) (.slice a E.p cap) (.slice a' E.q cap') ∧ Box6 ((w.alloc o1).alloc o2) (w.heap.size + 1) (.int .i64 0) (.int .i64 0) (.int .i64 0) (.int .i64 0) (.slice none 0 0) (.slice none 0 0) ∧ (∀ i, ((w.alloc o1).alloc o2).frozen? ⟨w.heap.size + 1, i, none⟩ = false) ∧ Below w.heap.size w ((w.alloc o1).alloc o2) ∧ ((w.alloc o1).alloc o2).heap.size = w.heap.size + 2) := by
    rintro o1 o2 rfl rfl
    exact ⟨(Box4.new w _ _ _ _ _).alloc _, by simp [Box6, go_sem], fun i => by simp [go_sem], ((Below.refl _ _).alloc (Nat.le_refl _) _).alloc (by simp) _, by simp⟩
  go_enter Tryz.func12, Tryz.ntmps12
  go_wp2_with fail
  obtain ⟨hb4, hb2, hbf, hbw, hbs⟩ := HBX.out _ _ rfl rfl
  refine (writeCell_any E a cap a' cap' id key v false _ HS.out (HXA.out.below hbw)).mono ?_
  rintro e W ⟨a2, c2, a3, c3, rfl, hb1, hown⟩
  have HF : Hid (∀ w7, Writes (w.heap.size + 1) (w.heap.size + 2) W w7 → w7.heap.size = W.heap.size → ERes2 (wcC E id key v false) 0 (wcE E id key v false) w (.returned (.agg #[.int .i64 (wcC E id key v false), .int .i64 0, .int .i64 (wcE E id key v false).nx, .int .i64 (wcE E id key v false).ck, .slice a2 (wcE E id key v false).p c2, .slice a3 (wcE E id key v false).q c3])) w7) := fun w7 hw hz => by
    refine ⟨a2, c2, a3, c3, rfl, Writes.below (below_then hbw hb1) hw (by omega), ?_⟩
    rw [hbs] at hown
    exact eres_wide (hown.writes hw (.inr (Nat.le_refl _))) (by omega) (by have := hw.size; omega) (Nat.le_refl _)
  obtain ⟨r0, r1, r2, r3, r4, r5⟩ := hb2.below hb1
  have rf : ∀ i, W.frozen? ⟨w.heap.size + 1, i, none⟩ = false := fun i => ((bcell2 hb1).2 _ _ (by rw [hbs]; omega)).trans (hbf i)
  clear hb1 hb4 hb2 hbf hbw hbs HBX hown
  generalize wcE E id key v false = G at *
  generalize wcC E id key v false = c at *
  go_wp2_with fail
  refine bodyPost_ret (v := .agg #[.int .i64 c, .int .i64 0, .int .i64 G.nx, .int .i64 G.ck, .slice a2 G.p c2, .slice a3 G.q c3]) (by simp [results, Tryz.results12, go_sem, *]) rfl ?_
  refine HF.out _ ?_ (by simp [World.setCell])
  repeat (first | with_reducible exact Writes.refl _ _ _ | with_reducible refine Writes.setCell ?_ (by first | omega | (simp <;> omega)) (by first | omega | (simp <;> omega)) _)
end Go.Proofs.YtjdodbiphijjgaaGreat
