/- The closure of impl.KeysIn. -/
import Derived.Test.YtbnehgpefjbheaaTnu
namespace Go.Proofs.Ytbnehgpefjbheaa
open Go.RowKit Go.Deep
set_option linter.unusedVariables false
set_option maxRecDepth 20000

/-- The numbers of a list that are lo to hi. -/
def fil (lo hi : Int) (L : List Int) : List Int := L.filter fun z => inB z lo hi
theorem fil_app (lo hi : Int) (A B : List Int) : fil lo hi (A ++ B) = fil lo hi A ++ fil lo hi B := List.filter_append A B
theorem fil_len (lo hi : Int) (L : List Int) : (fil lo hi L).length ≤ L.length := List.length_filter_le _ _
theorem zL_succ (z : Nat → Int) (k : Nat) : zL z (k + 1) = zL z k ++ [z k] := by simp [zL, List.range_succ]
theorem fil_in {lo hi z : Int} (h : inB z lo hi = true) (L : List Int) : fil lo hi (L ++ [z]) = fil lo hi L ++ [z] := by rw [fil_app]; simp [fil, h]
theorem fil_out {lo hi z : Int} (h : inB z lo hi = false) (L : List Int) : fil lo hi (L ++ [z]) = fil lo hi L := by rw [fil_app]; simp [fil, h]
/-- What the closure of KeysIn finds: the list and the closure itself, in the two blocks behind those that were there. -/
structure Ky (W0 : World) (tb lb hb : Nat) (w : World) (L : List Int) (v : Value) : Prop where
  below : Below W0.heap.size W0 w
  size : W0.heap.size + 2 ≤ w.heap.size
  lst : w.cell? ⟨W0.heap.size, 0, none⟩ = some v
  lstf : ∀ i, w.frozen? ⟨W0.heap.size, i, none⟩ = false
  own : w.ownsRow (W0.heap.size + 2) 2 1 v L.length (il L)
  fn : w.cell? ⟨W0.heap.size + 1, 0, none⟩ = some (.func (.func 60) #[] #[.pointer (some ⟨lb, 0, none⟩), .pointer (some ⟨hb, 0, none⟩), .pointer (some ⟨W0.heap.size, 0, none⟩), .pointer (some ⟨W0.heap.size + 1, 0, none⟩), .pointer (some ⟨tb, 0, none⟩)])
theorem Ky.drewn {W0 w : World} {tb lb hb : Nat} {L : List Int} {v : Value} (h : Ky W0 tb lb hb w L v) : Ky W0 tb lb hb w.drew L v := ⟨h.below.drew, h.size, h.lst, h.lstf, h.own, h.fn⟩
theorem Ky.go {W0 w w1 w3 : World} {tb lb hb g c : Nat} {p : Int} {L : List Int} {v : Value} (h : Ky W0 tb lb hb w L v) (hb1 : Below w.heap.size w w1) (hg : w1.grownBy w3 v.ownBlock) (ho : w3.ownsRow (W0.heap.size + 2) 2 1 (.slice (some ⟨g, 0, none⟩) (L.length + 1) c) (L.length + 1) (il (L ++ [p]))) (hl : v.ownBlock = some g ∨ g = w1.heap.size) :
    Ky W0 tb lb hb (w3.setCell ⟨W0.heap.size, 0, none⟩ (.slice (some ⟨g, 0, none⟩) (L.length + 1) c)) (L ++ [p]) (.slice (some ⟨g, 0, none⟩) (L.length + 1) c) := by
  have hs := h.size
  have hs1 := hb1.size
  have hne : ∀ k, k < W0.heap.size + 2 → some k ≠ v.ownBlock := fun k hk e => by have := (ownI_lt h.own _ e.symm).1; omega
  have e1 : ∀ k, k < W0.heap.size + 2 → w3.heap[k]? = w.heap[k]? := fun k hk => (hg.block k (by omega) (hne k hk)).trans (hb1.block k (by omega))
  have c1 : ∀ k i, k < W0.heap.size + 2 → w3.cell? ⟨k, i, none⟩ = w.cell? ⟨k, i, none⟩ := fun k i hk => World.cell?_of_block (a := ⟨k, i, none⟩) (e1 k hk)
  have hgG : W0.heap.size + 2 ≤ g := by
    rcases hl with e | e
    · exact (ownI_lt h.own g e).1
    · omega
  have hB3 : Below W0.heap.size W0 w3 := (h.below.trans (hb1.mono (by omega))).grown hg (by omega) fun q hq => by have := (ownI_lt h.own q hq).1; omega
  refine ⟨hB3.setCell (p := ⟨_, _, none⟩) (Nat.le_refl _) _, by have := hg.size; simp [World.setCell]; omega, setS ((c1 _ _ (by omega)).trans h.lst), fun i => ?_, ?_, ?_⟩
  · rw [World.frozen?_setCell, World.frozen?_of_block (a := ⟨W0.heap.size, i, none⟩) (e1 _ (by dsimp only; omega))]; exact h.lstf i
  · refine ownI_keep (by rw [show (L ++ [p]).length = L.length + 1 by simp]; exact ho) fun q hq => ?_
    have e : q = g := by simpa [Value.ownBlock] using hq.symm
    exact Below.heap_setCell _ _ _ _ (by dsimp only; omega)
  · rw [World.cell?_setCell_far _ _ _ _ (by dsimp only; omega), c1 _ _ (by omega)]; exact h.fn
def KyP (W0 : World) (tb lb hb : Nat) (L : List Int) (e : Ending) (w' : World) : Prop := e = .returned (.tuple #[]) ∧ ∃ v, Ky W0 tb lb hb w' L v
set_option maxHeartbeats 8000000 in
theorem keysI (W0 : World) (tb lb hb n ca b off : Nat) (T : Nat → Nd) (lo hi : Int) (hn : n ≤ 60) (hG : GoodN T n) (htb : W0.cell? ⟨tb, 1, none⟩ = some (.slice (some ⟨b, off, none⟩) n ca)) (hlb : W0.cell? ⟨lb, 0, none⟩ = some (.int .i64 lo)) (hhb : W0.cell? ⟨hb, 0, none⟩ = some (.int .i64 hi)) (hbl : b < W0.heap.size) (hA : ∀ i, i < n → ∃ ak ck ad cd, CNd W0 b (off + i * 3) (T i) ak ck ad cd ∧ IntsAt W0 ak (T i).kn (T i).K ∧ IntsAt W0 ad (T i).dn (T i).D ∧ (T i).kn ≤ ck ∧ (T i).dn ≤ cd) :
    ∀ f, ∀ (p : Nat) (L : List Int) (v : Value) (w : World), Ky W0 tb lb hb w L v → p < n → fin T f p → L.length + (allK T f p).length ≤ 1000 → Calls Try.prog 60 #[.pointer (some ⟨b, off + p * 3, none⟩), .pointer (some ⟨lb, 0, none⟩), .pointer (some ⟨hb, 0, none⟩), .pointer (some ⟨W0.heap.size, 0, none⟩), .pointer (some ⟨W0.heap.size + 1, 0, none⟩), .pointer (some ⟨tb, 0, none⟩)] w (KyP W0 tb lb hb (L ++ fil lo hi (allK T f p))) := by
  have HG : Hid (GoodN T n) := hG
  have HA : Hid (∀ i, i < n → ∃ ak ck ad cd, CNd W0 b (off + i * 3) (T i) ak ck ad cd ∧ IntsAt W0 ak (T i).kn (T i).K ∧ IntsAt W0 ad (T i).dn (T i).D ∧ (T i).kn ≤ ck ∧ (T i).dn ≤ cd) := hA
  have HTB : Hid (W0.cell? ⟨tb, 1, none⟩ = some (.slice (some ⟨b, off, none⟩) n ca)) := htb
  have HLB : Hid (W0.cell? ⟨lb, 0, none⟩ = some (.int .i64 lo)) := hlb
  have HHB : Hid (W0.cell? ⟨hb, 0, none⟩ = some (.int .i64 hi)) := hhb
  clear hG hA htb hlb hhb
  intro f
  induction f with
  | zero => intro p L v w _ _ h; exact absurd h (by simp [fin])
  | succ f ih =>
    intro p L v w hH hp hfin hL
    have IH : Hid (∀ (p : Nat) (L : List Int) (v : Value) (w : World), Ky W0 tb lb hb w L v → p < n → fin T f p → L.length + (allK T f p).length ≤ 1000 → Calls Try.prog 60 #[.pointer (some ⟨b, off + p * 3, none⟩), .pointer (some ⟨lb, 0, none⟩), .pointer (some ⟨hb, 0, none⟩), .pointer (some ⟨W0.heap.size, 0, none⟩), .pointer (some ⟨W0.heap.size + 1, 0, none⟩), .pointer (some ⟨tb, 0, none⟩)] w (KyP W0 tb lb hb (L ++ fil lo hi (allK T f p)))) := ih
    clear ih
    have HH : Hid (Ky W0 tb lb hb w L v) := hH
    have HFN : Hid (fin T (f + 1) p) := hfin
    have HLN : Hid (L.length + (allK T (f + 1) p).length ≤ 1000) := hL
    obtain ⟨hkn3, hdn4⟩ := cntB_le (HG.out p hp).1
    have HDB : Hid (∀ j, j < (T p).dn → 0 ≤ (T p).D j ∧ (T p).D j < n) := (HG.out p hp).2
    obtain ⟨ak, ck, ad, cd, hC0, hy, hz, -⟩ := HA.out p hp
    have HC0 : Hid (CNd W0 b (off + p * 3) (T p) ak ck ad cd) := hC0
    have HY0 : Hid (IntsAt W0 ak (T p).kn (T p).K) := hy
    have HZ0 : Hid (IntsAt W0 ad (T p).dn (T p).D) := hz
    obtain ⟨q0, q1, q2⟩ := hC0.block (HH.out.below.block _ hbl)
    clear hH hfin hL hC0 hy hz
    cases hlf : (T p).lf
    case true =>
      have HP : Hid (allK T (f + 1) p = zL (T p).K (T p).kn) := allK_leaf hlf
      have HDN : Hid ((T p).dn = 0) := by
        have h := (HG.out p hp).1
        unfold cntB at h
        rw [if_pos hlf] at h
        simp at h
        exact h.2
      have HLK : Hid (L.length + (T p).kn ≤ 1000) := by have h := HLN.out; rw [HP.out, zL_len] at h; exact h
      have HTL : Hid ((T p).lf = true) := hlf
      rw [hlf] at q0
      clear hlf HLN HDB HFN
      generalize T p = t at *
      go_enter Try.func60, Try.ntmps60
      go_wp2_with fail
      clear q0 q1 q2
      go_loopw [16] (fun i wr => ∃ (k : Nat) (vk : Value), k ≤ t.kn ∧ i = .int .i64 k ∧ Hid (Ky W0 tb lb hb wr (L ++ fil lo hi (zL t.K k)) vk)) (fun i _ => t.kn - (intOf i).toNat)
      case atStart => exact ⟨0, v, Nat.zero_le _, rfl, by have h := HH.out; simpa [Hid, zL, fil] using h⟩
      case round =>
        obtain ⟨k, vk, hk, rfl, HK⟩ := hrel
        obtain ⟨q0, q1, q2⟩ := HC0.out.block (HK.out.below.block _ hbl)
        rw [HTL.out] at q0
        have l0 := cell_below HLB.out HK.out.below
        have h0 := cell_below HHB.out HK.out.below
        by_cases hlt : k < t.kn
        · have hlt' : (k : Int) < (t.kn : Int) := by omega
          have hk0' : (0 : Int) ≤ (k : Int) := by omega
          rcases HY0.out.below HK.out.below with h | ⟨b1, o1, rfl, hl1, hc1⟩
          · omega
          have hx := hc1 k hlt
          have hzs := zL_succ t.K k
          clear hc1
          cases hin : inB (t.K k) lo hi
          · have HK2 : Hid (Ky W0 tb lb hb wr (L ++ fil lo hi (zL t.K (k + 1))) vk) := by
              rw [hzs, fil_out hin]; exact HK
            clear hzs
            generalize t.K k = tk at *
            go_wp2_with (go_at_call 46; refine (within_any _ _ _ _).mono ?_; rintro e w' ⟨rfl, hw⟩; have hw1 := hw.symm; clear hw; subst hw1; rw [hin])
            go_roundw
            case rel => exact ⟨k + 1, vk, hlt, by go_num, HK2⟩
            case measure => simp [intOf]; omega
          · have HE : Hid (L ++ fil lo hi (zL t.K (k + 1)) = (L ++ fil lo hi (zL t.K k)) ++ [t.K k]) := by
              show _ = _
              rw [hzs, fil_in hin, List.append_assoc]
            have HLM : Hid ((L ++ fil lo hi (zL t.K k)).length ≤ 1000) := by
              have h1 := fil_len lo hi (zL t.K k)
              rw [zL_len] at h1
              have h2 := HLK.out
              show (L ++ fil lo hi (zL t.K k)).length ≤ 1000
              rw [List.length_append]
              omega
            clear hzs
            generalize t.K k = tk at *
            generalize L ++ fil lo hi (zL t.K k) = L1 at *
            obtain ⟨ga, gc, hva, -⟩ := rowI_shape HK.out.own
            have HVA : Hid (vk = .slice ga L1.length gc) := hva
            have v0 := HK.out.lst
            have vf := HK.out.lstf
            rw [hva] at v0
            have HSZ : Hid (W0.heap.size + 2 ≤ wr.heap.size) := HK.out.size
            have HOW : Hid (∀ o : Obj, (wr.alloc o).ownsRow (W0.heap.size + 2) 2 1 (.slice ga L1.length gc) L1.length (il L1)) := fun o => by
              have h : (wr.alloc o).ownsRow (W0.heap.size + 2) 2 1 vk L1.length (il L1) := own_belowI HK.out.own (below_new wr o)
              rw [HVA.out] at h
              exact h
            have G0 := fun o : Obj => cell_alloc v0 o
            clear hva
            go_wp2_with (first | (go_at_call 46; refine (within_any _ _ _ _).mono ?_; rintro e w' ⟨rfl, hw⟩; have hw1 := hw.symm; clear hw; subst hw1; rw [hin]) | (at_builtin; refine wpList_appIL _ rfl (.tmp 30) (.tmp 32) rfl (W0.heap.size + 2) _ L1 rfl (HOW.out _) wr.heap.size 0 1 tk rfl (by simp [go_sem]) (by have := HSZ.out; simp; omega) (by have := HLM.out; omega) ?_))
            intro g gcap w3 ho3 hg3 hl3 hlt3
            have hgn : some W0.heap.size ≠ (Value.slice ga L1.length gc).ownBlock := fun e => by
              have h := HK.out.own
              rw [HVA.out] at h
              have := (ownI_lt h _ e.symm).1
              omega
            have hsw : W0.heap.size < (wr.alloc (.cells #[.int .i64 tk] 2)).heap.size := by have := HSZ.out; simp; omega
            have z0 : w3.cell? ⟨W0.heap.size, 0, none⟩ = some (.slice ga L1.length gc) := (World.cell?_of_block (a := ⟨W0.heap.size, 0, none⟩) (hg3.block _ hsw hgn)).trans (G0 _)
            have zf : ∀ i, w3.frozen? ⟨W0.heap.size, i, none⟩ = false := fun i => (World.frozen?_of_block (a := ⟨W0.heap.size, i, none⟩) (hg3.block _ hsw hgn)).trans (((below_new wr _).frozen (p := ⟨W0.heap.size, i, none⟩) (by have := HSZ.out; show W0.heap.size < wr.heap.size; omega)).trans (vf i))
            have HS3 : Hid (Ky W0 tb lb hb (w3.setCell ⟨W0.heap.size, 0, none⟩ (.slice (some ⟨g, 0, none⟩) (L1.length + 1) gcap)) (L1 ++ [tk]) (.slice (some ⟨g, 0, none⟩) (L1.length + 1) gcap)) := HK.out.go (below_new wr _) (by rw [HVA.out]; exact hg3) ho3 (by rw [HVA.out, World.size_alloc]; exact hl3)
            clear hg3 ho3 hl3 hlt3 hgn hsw HOW G0 v0 vf HK
            go_wp2_with fail
            go_roundw
            case rel => exact ⟨k + 1, _, hlt, by go_num, by rw [HE.out]; exact HS3⟩
            case measure => simp [intOf]; omega
        · have hnl : ¬ ((k : Int) < (t.kn : Int)) := by omega
          have hkn : k = t.kn := by omega
          subst hkn
          have HFI : Hid (Ky W0 tb lb hb wr (L ++ fil lo hi (allK T (f + 1) p)) vk) := by rw [HP.out]; exact HK
          rw [HDN.out] at q2
          go_wp2_with fail
          go_loop [40] (fun i => i = .int .i64 0) (fun _ => 0)
          case atStart => exact rfl
          case round =>
            obtain rfl := hrel
            go_wp2_with fail
            go_end0
            exact ⟨rfl, vk, HFI.out⟩
    case false =>
      have HP : Hid (allK T (f + 1) p = kcat (fun j => allK T f ((T p).D j).toNat) (T p).dn) := allK_node hlf
      have HF : Hid (∀ j, j < (T p).dn → fin T f ((T p).D j).toNat) := by
        rcases HFN.out with h | h
        · rw [hlf] at h; exact absurd h (by simp)
        · exact h
      have HLK : Hid (L.length + (kcat (fun j => allK T f ((T p).D j).toNat) (T p).dn).length ≤ 1000) := by rw [← HP.out]; exact HLN.out
      rw [hlf] at q0
      clear hlf HLN HFN
      generalize T p = t at *
      obtain ⟨g, hg⟩ : ∃ x, x = (fun j => allK T f (t.D j).toNat) := ⟨_, rfl⟩
      have HGE : Hid (g = fun j => allK T f (t.D j).toNat) := hg
      rw [← hg] at HP HLK
      clear hg
      go_enter Try.func60, Try.ntmps60
      go_wp2_with fail
      go_loop [16] (fun i => ∃ k : Nat, k ≤ t.kn ∧ i = .int .i64 k) (fun i => t.kn - (intOf i).toNat)
      case atStart => exact ⟨0, Nat.zero_le _, rfl⟩
      case round =>
        obtain ⟨k, hk, rfl⟩ := hrel
        by_cases hlt : k < t.kn
        · have hlt' : (k : Int) < (t.kn : Int) := by omega
          have hk0' : (0 : Int) ≤ (k : Int) := by omega
          rcases HY0.out.below HH.out.below with h | ⟨b1, o1, rfl, hl1, hc1⟩
          · omega
          have hx := hc1 k hlt
          clear hc1
          generalize t.K k = tk at *
          go_wp2_with fail
          go_round
          case rel => exact ⟨k + 1, hlt, by go_num⟩
          case measure => simp [intOf]; omega
        · have hnl : ¬ ((k : Int) < (t.kn : Int)) := by omega
          go_wp2_with fail
          clear q0 q1 q2
          go_loopw [40] (fun i wr => ∃ (j : Nat) (vj : Value), j ≤ t.dn ∧ i = .int .i64 j ∧ Hid (Ky W0 tb lb hb wr (L ++ fil lo hi (kcat g j)) vj)) (fun i _ => t.dn - (intOf i).toNat)
          case atStart => exact ⟨0, v, Nat.zero_le _, rfl, by have h := HH.out; simpa [Hid, kcat, fil] using h⟩
          case round =>
            obtain ⟨j, vj, hj, rfl, HK⟩ := hrel
            by_cases hjl : j < t.dn
            · have hlt' : (j : Int) < (t.dn : Int) := by omega
              have hj0' : (0 : Int) ≤ (j : Int) := by omega
              rcases HZ0.out.below HK.out.below with h | ⟨b1, o1, rfl, hl1, hc1⟩
              · omega
              have hx := hc1 j hjl
              have hDk := HDB.out j hjl
              obtain ⟨q, hq⟩ : ∃ q : Nat, t.D j = q := ⟨(t.D j).toNat, by omega⟩
              have e9 : (t.D j).toNat = q := by omega
              have HGK : Hid (g j = allK T f q) := by show g j = _; rw [HGE.out]; show allK T f (t.D j).toNat = _; rw [e9]
              have hpart := kcat_part g hjl
              have hfl := fil_len lo hi (kcat g j)
              have HLM : Hid ((L ++ fil lo hi (kcat g j)).length + (allK T f q).length ≤ 1000) := by
                have h2 := HLK.out
                have h3 := HGK.out
                show (L ++ fil lo hi (kcat g j)).length + (allK T f q).length ≤ 1000
                rw [List.length_append, ← h3]
                omega
              have HFQ : Hid (fin T f q) := by rw [← e9]; exact HF.out j hjl
              have HE : Hid (L ++ fil lo hi (kcat g (j + 1)) = (L ++ fil lo hi (kcat g j)) ++ fil lo hi (allK T f q)) := by
                show _ = _
                rw [← HGK.out]
                show L ++ fil lo hi (kcat g j ++ g j) = _
                rw [fil_app, List.append_assoc]
              have hqn : q < n := by omega
              have hqi : (q : Int) < (n : Int) := by omega
              have hq0 : (0 : Int) ≤ (q : Int) := by omega
              rw [hq] at hx
              have t1 := cell_below HTB.out HK.out.below
              have f0 := HK.out.fn
              have HKd : Hid (Ky W0 tb lb hb wr.drew (L ++ fil lo hi (kcat g j)) vj) := HK.out.drewn
              have HJL : Hid (j < t.dn) := hjl
              clear hc1 hDk hq e9 hpart hfl HGK
              generalize L ++ fil lo hi (kcat g j) = L1 at *
              go_wp2_with fail
              go_region_held3 (fun w' => w'.cell? ⟨W0.heap.size + 1, 0, none⟩ = some (.func (.func 60) #[] #[.pointer (some ⟨lb, 0, none⟩), .pointer (some ⟨hb, 0, none⟩), .pointer (some ⟨W0.heap.size, 0, none⟩), .pointer (some ⟨W0.heap.size + 1, 0, none⟩), .pointer (some ⟨tb, 0, none⟩)]) ∧ w'.cell? ⟨tb, 1, none⟩ = some (.slice (some ⟨b, off, none⟩) n ca)) (go_keep)
                (first | ((with_reducible refine (IH.out q _ vj _ HKd.out hqn HFQ.out HLM.out).mono ?_); intro e w4 hpost; unfold KyP at hpost; obtain ⟨he4, v4, hW4⟩ := hpost; subst he4; have HW4 : Hid (Ky W0 tb lb hb w4 (L1 ++ fil lo hi (allK T f q)) v4) := hW4; have u0 := hW4.fn; have u1 := cell_below HTB.out hW4.below; clear hW4))
              go_wp2_with fail
              go_roundw
              case rel => exact ⟨j + 1, v4, HJL.out, by go_num, by rw [HE.out]; exact HW4⟩
              case measure => simp [intOf]; omega
            · have hnl2 : ¬ ((j : Int) < (t.dn : Int)) := by omega
              have hjd : j = t.dn := by omega
              subst hjd
              have HFI : Hid (Ky W0 tb lb hb wr (L ++ fil lo hi (allK T (f + 1) p)) vj) := by rw [HP.out]; exact HK
              go_wp2_with fail
              go_end0
              exact ⟨rfl, vj, HFI.out⟩
end Go.Proofs.Ytbnehgpefjbheaa
