/- spec.l4Path. -/
import Derived.Test.YtbnehgpefjbheaaTnn
namespace Go.Proofs.Ytbnehgpefjbheaa
open Go.RowKit Go.Deep
set_option linter.unusedVariables false
set_option maxRecDepth 20000

def slLen : Value → Nat
  | .slice _ n _ => n
  | _ => 0
/-- What the loop of l4Path keeps. -/
structure Lp (w wr : World) (v : Value) (L : List Int) : Prop where
  below : Below w.heap.size w wr
  own : wr.ownsRow w.heap.size 2 1 v L.length (il L)
theorem lit1 (w : World) (z : Int) : (w.alloc (.cells #[.int .i64 z] 2)).ownsRow w.heap.size 2 1 (.slice (some ⟨w.heap.size, 0, none⟩) 1 1) 1 (il [z]) := by
  exact ⟨by simp [il], .inr ⟨w.heap.size, 1, #[.int .i64 z], rfl, Nat.le_refl _, blk_alloc_new _ _, Nat.le_refl _, by unfold maxLen; omega, rfl, rfl⟩⟩
set_option maxHeartbeats 8000000 in
theorem l4Path_any (t : Tr) (key : Int) (tb ca : Nat) (a : Option Addr) (w : World) (hn1 : 1 ≤ t.n) (hn : t.n ≤ 60) (hG : GoodN t.T t.n) (hr0 : 0 ≤ t.root) (hr : t.root < t.n) (hfin : fin t.T (t.n + 1) t.root.toNat) (htr : w.cell? ⟨tb, 0, none⟩ = some (.int .i64 t.root)) (htb : w.cell? ⟨tb, 1, none⟩ = some (.slice a t.n ca)) (hA : NdsAt w a t.n t.T) :
    Calls Try.prog 53 #[.pointer (some ⟨tb, 0, none⟩), .int .i64 key] w (IAn (pth t.T key (t.n + 1) t.root.toNat) w) := by
  obtain ⟨q, hq⟩ : ∃ q : Nat, t.root = q := ⟨t.root.toNat, by omega⟩
  have htq : t.root.toNat = q := by omega
  rw [htq] at hfin ⊢
  rw [hq] at htr
  have hqn : q < t.n := by omega
  generalize hP : pth t.T key (t.n + 1) q = P
  have HG : Hid (GoodN t.T t.n) := hG
  have HA : Hid (NdsAt w a t.n t.T) := hA
  have HTB : Hid (w.cell? ⟨tb, 1, none⟩ = some (.slice a t.n ca)) := htb
  have HFN : Hid (fin t.T (t.n + 1) q) := hfin
  have HL1 : Hid (Lp w (w.alloc (.cells #[.int .i64 (q : Int)] 2)) (.slice (some ⟨w.heap.size, 0, none⟩) 1 1) [(q : Int)]) := ⟨below_new _ _, lit1 w q⟩
  have T0 := fun o : Obj => cell_alloc htr o
  clear hG hA hfin hr0 hr htq
  go_enter Try.func53, Try.ntmps53
  go_wp2_with fail
  clear T0 htb
  have HPL : Hid (P.length ≤ 61) := by
    have h := pth_len t.T key (t.n + 1) q
    rw [hP] at h
    show P.length ≤ 61
    omega
  go_loopw [5, 6] (fun vo at' wr => ∃ (f p : Nat) (L0 : List Int), p < t.n ∧ at' = .int .i64 p ∧ Hid (P = L0 ++ pth t.T key (f + 1) p) ∧ Hid (fin t.T (f + 1) p) ∧ Hid (Lp w wr vo (L0 ++ [(p : Int)])) ∧ slLen vo = L0.length + 1) (fun vo _ _ => 100 - slLen vo)
  case atStart => exact ⟨t.n, q, [], hqn, rfl, hP.symm, HFN, HL1, rfl⟩
  case round =>
    clear HL1 HFN
    obtain ⟨f, p, L0, hp, rfl, HP, HFN, HL, hsl⟩ := hrel
    have hpn : (p : Int) < (t.n : Int) := by omega
    have hp0 : (0 : Int) ≤ (p : Int) := by omega
    have t1 := cell_below HTB.out HL.out.below
    have hLn : L0.length ≤ 61 := by
      have h1 := HPL.out
      rw [HP.out] at h1
      simp at h1
      omega
    rcases HA.out.below HL.out.below with h | ⟨b, off, rfl, hbl, hc⟩
    · omega
    obtain ⟨ak, ck, ad, cd, hC0, hy, hz, -⟩ := hc p hp
    have HC : Hid (CNd wr b (off + p * 3) (t.T p) ak ck ad cd) := hC0
    have HY : Hid (IntsAt wr ak (t.T p).kn (t.T p).K) := hy
    obtain ⟨q0, q1, q2⟩ := hC0
    clear hc
    cases hlf : (t.T p).lf
    case true =>
      have HP2 : Hid (P = L0 ++ [(p : Int)]) := by have h := HP.out; rw [pth_leaf hlf] at h; exact h
      rw [hlf] at q0
      obtain ⟨pa, pc, rfl, ho⟩ := ownI_of_row HL.out.own
      have HO : Hid (OwnI wr w.heap.size wr.heap.size pa P.length (zI P)) := by rw [HP2.out]; exact ho
      have HPN : Hid ((L0 ++ [(p : Int)]).length = P.length) := by rw [HP2.out]; rfl
      clear ho hy hz
      rw [HPN.out]
      go_wp2_with fail
      go_ret
      exact ⟨pa, pc, rfl, HL.out.below, HO.out⟩
    case false =>
      have hk := kid_ok HG.out hp hlf key
      obtain ⟨r, hr⟩ : ∃ r : Nat, (t.T p).D (kix (t.T p) key) = r := ⟨((t.T p).D (kix (t.T p) key)).toNat, by omega⟩
      have er : ((t.T p).D (kix (t.T p) key)).toNat = r := by omega
      have HF : Hid (fin t.T f r) := by
        rcases HFN.out with h | h
        · rw [hlf] at h; exact absurd h (by simp)
        · rw [← er]; exact h _ hk.1
      obtain ⟨f', rfl⟩ : ∃ f', f = f' + 1 := by
        cases f with
        | zero => exact absurd HF.out (by simp [fin])
        | succ f' => exact ⟨f', rfl⟩
      have HP2 : Hid (P = (L0 ++ [(p : Int)]) ++ pth t.T key (f' + 1) r) := by
        have h := HP.out
        rw [pth_node hlf, er] at h
        show P = _
        rw [h]; simp
      have hrn : r < t.n := by omega
      rcases hz with h | ⟨b1, o1, rfl, hl1, hc1⟩
      · omega
      have hx := hc1 (kix (t.T p) key) hk.1
      rw [hr] at hx
      have hi1 : ((kix (t.T p) key : Nat) : Int) < ((t.T p).dn : Int) := by omega
      have hi0 : (0 : Int) ≤ ((kix (t.T p) key : Nat) : Int) := by omega
      have hk3 := hk.2.2.2
      rw [hlf] at q0
      have HKU : Hid (∀ u : World, (∃ m, u = wr.drewN m) → Calls Try.prog 68 #[.pointer (some ⟨b, off + p * 3, none⟩), .int .i64 key] u fun e w' => e = .returned (.int .i64 (kix (t.T p) key)) ∧ ∃ n, w' = u.drewN n) := by
        rintro u ⟨m, rfl⟩
        exact l4Kid_any (t.T p) key b (off + p * 3) ak (some ⟨b1, o1, none⟩) ck cd (wr.drewN m) hk3 HC.out (HY.out.below (below_drewN (Below.refl _ _) _))
      clear hc1 hr er hk HP hy hlf HFN
      generalize kix (t.T p) key = ki at *
      generalize t.T p = nd at *
      go_wp2_with fail
      go_quiet (first | (go_at_call 68; exact Calls.quiet_of (HKU.out _ ⟨_, rfl⟩)) | (go_at_call 68; exact Calls.quiet_of (HKU.out _ ⟨0, rfl⟩)))
      have hlen1 : (L0 ++ [(p : Int)]).length = L0.length + 1 := by simp
      generalize L0 ++ [(p : Int)] = L1 at *
      obtain ⟨ga, gc, rfl, -⟩ := rowI_shape HL.out.own
      have HBW : Hid (Below w.heap.size w (wr.drewN nq)) := below_drewN HL.out.below _
      have HOW0 : Hid ((wr.drewN nq).ownsRow w.heap.size 2 1 (.slice ga L1.length gc) L1.length (il L1)) := ownI_keep HL.out.own fun _ _ => rfl
      generalize wr.drewN nq = WQ at *
      have HOW : Hid (∀ o : Obj, (WQ.alloc o).ownsRow w.heap.size 2 1 (.slice ga L1.length gc) L1.length (il L1)) := fun o => ownI_keep HOW0.out fun q hq => (below_new WQ o).block q (ownI_lt HOW0.out q hq).2
      have HSZ : Hid (w.heap.size ≤ WQ.heap.size) := HBW.out.size
      have HL62 : Hid (L1.length ≤ 62) := by show _ ≤ _; omega
      clear q0 q1 q2 hx t1 HC HY HKU hbl hl1 hlen1 hsl
      go_wp2_with (at_builtin; refine wpList_appIL _ rfl (.tmp 43) (.tmp 45) rfl w.heap.size _ L1 rfl (HOW.out _) WQ.heap.size 0 1 r rfl (by simp [go_sem]) (by have := HSZ.out; simp; omega) (by have := HL62.out; omega) ?_)
      intro g gcap w3 ho3 hg3 hl3 hlt3
      have HL3 : Hid (Lp w w3 (.slice (some ⟨g, 0, none⟩) (L1.length + 1) gcap) (L1 ++ [(r : Int)])) := by
        refine ⟨(below_then HBW.out (below_new _ _)).grown hg3 (by have := HSZ.out; simp; omega) fun q hq => (ownI_lt HOW0.out q hq).1, ?_⟩
        rw [show (L1 ++ [(r : Int)]).length = L1.length + 1 by simp]
        exact ho3
      clear hg3 ho3 hl3 hlt3 HOW HOW0
      go_wp2_with fail
      go_roundw
      case rel => exact ⟨f', r, L1, hrn, rfl, HP2, HF, HL3, rfl⟩
      case measure => have := HL62.out; simp [slLen]; omega
end Go.Proofs.Ytbnehgpefjbheaa
