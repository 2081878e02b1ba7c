/- An engine as a text: as functions; the model's l7Line. -/
import Derived.Test.YtaelpjjabkkhcaaGreatDoorYib
import Derived.Test.YtaelpjjabkkhcaaGreatDoorVg
import Derived.Test.YtaelpjjabkkhcaaGreatDoorEe
namespace Go.Proofs.YtaelpjjabkkhcaaGreatDoor
open Go.RowKit Go.Deep
set_option linter.unusedVariables false
set_option maxRecDepth 20000

def cln : ByteArray := ⟨#[58]⟩
def mns : ByteArray := ⟨#[45]⟩
def eqs : ByteArray := ⟨#[61]⟩
def rowB : ByteArray := ⟨#[114, 111, 119]⟩
def rowS : ByteArray := ⟨#[114, 111, 119, 32]⟩
def clkB : ByteArray := ⟨#[99, 108, 111, 99, 107]⟩
def txnB : ByteArray := ⟨#[116, 120, 110]⟩
theorem rowS_eq : rowS = rowB ++ blk := rfl
/-- A word and numbers. -/
def lnT (W : ByteArray) (L : List Int) : ByteArray := L.foldl (fun a n => (a ++ blk) ++ dg n.toNat) W
theorem lnT_take (W : ByteArray) (L : List Int) (q : Nat) (x : Int) (h : L[q]? = some x) : lnT W (L.take (q + 1)) = (lnT W (L.take q) ++ blk) ++ dg x.toNat := by
  rw [List.take_add_one, h]
  simp [lnT]
theorem lnT_size (L : List Int) : ∀ W : ByteArray, (∀ x ∈ L, 0 ≤ x ∧ x ≤ 1000000000) → (lnT W L).size ≤ W.size + 21 * L.length := by
  induction L with
  | nil => intro W _; simp [lnT]
  | cons x L ih =>
    intro W h
    have h1 := ih ((W ++ blk) ++ dg x.toNat) (fun y hy => h y (List.mem_cons_of_mem _ hy))
    have h2 := h x List.mem_cons_self
    have h3 := dg_size x.toNat (by omega)
    simp only [ByteArray.size_append] at h1
    have h4 : blk.size = 1 := rfl
    show (lnT ((W ++ blk) ++ dg x.toNat) L).size ≤ _
    simp only [List.length_cons]
    omega
theorem txt_merge (x y : ByteArray) (M : List ByteArray) : txt (x :: y :: M) = txt ((x ++ blk ++ y) :: M) := by
  simp only [txt, List.map_cons, Lib.join_cons, Lib.joinTail, List.flatten_cons]
  rw [ba_append, ba_append]
  simp
theorem txt_lnT (L : List Int) : ∀ W : ByteArray, txt (W :: L.map fun n => dg n.toNat) = lnT W L := by
  induction L with
  | nil => intro W; simp only [List.map_nil, txt_one]; rfl
  | cons x L ih =>
    intro W
    rw [List.map_cons, txt_merge, ih]
    rfl
theorem txt_snoc (x : ByteArray) (M : List ByteArray) (q : ByteArray) : txt (x :: M ++ [q]) = txt (x :: M) ++ blk ++ q := by
  simp only [txt, List.map_append, List.map_cons, List.map_nil, List.cons_append, Lib.join_cons, Lib.joinTail, List.flatten_append]
  rw [ba_append, ba_append]
  simp
/-- A version, a chain, a row, a transaction, an engine. -/
def vt (r : Vr) : ByteArray := (((dg r.t.toNat ++ cln) ++ dg r.a.toNat)) ++ (if r.g = true then mns else eqs ++ dg r.v.toNat)
def VT (R : Nat → Vr) : Nat → ByteArray
  | 0 => ByteArray.empty
  | m + 1 => VT R m ++ (blk ++ vt (R m))
def rwT (r : Rw) : ByteArray := (((rowB ++ blk) ++ dg r.key.toNat) ++ VT r.U r.n) ++ nl
def txL (t : Tx) : List Int := [t.id, t.am, t.st, t.dn, (t.n : Int)]
def txT (t : Tx) : ByteArray := lnT txnB (txL t) ++ nl
def TT (c : ByteArray) (T : Nat → Tx) : Nat → ByteArray
  | 0 => c
  | m + 1 => TT c T m ++ txT (T m)
def RT (c : ByteArray) (R : Nat → Rw) : Nat → ByteArray
  | 0 => c
  | m + 1 => RT c R m ++ rwT (R m)
def eT0 (E : En) : ByteArray := lnT clkB [E.ck, E.nx] ++ nl
def eT (E : En) : ByteArray := RT (TT (eT0 E) E.T E.p) E.R E.q
/-- The words of a row, m versions among them. -/
def rws (k : Int) (R : Nat → Vr) (m : Nat) : List ByteArray := rowB :: dg k.toNat :: (List.range m).map fun j => vt (R j)
theorem rws_succ (k : Int) (R : Nat → Vr) (m : Nat) : rws k R (m + 1) = rws k R m ++ [vt (R m)] := by simp [rws, List.range_succ]
theorem rws_len (k : Int) (R : Nat → Vr) (m : Nat) : (rws k R m).length = m + 2 := by simp [rws]
theorem rws_txt (k : Int) (R : Nat → Vr) : ∀ m, txt (rws k R m) = ((rowB ++ blk) ++ dg k.toNat) ++ VT R m
  | 0 => by
    simp only [rws, List.range_zero, List.map_nil, VT, ByteArray.append_empty]
    exact txt_two _ _
  | m + 1 => by
    rw [rws_succ]
    refine (txt_snoc _ _ _).trans ?_
    have h := rws_txt k R m
    simp only [rws] at h
    rw [h, VT]
    simp only [ByteArray.append_assoc]
theorem vR_nat {r : Vr} (h : vR r = true) : (1 ≤ r.t ∧ r.t ≤ 999) ∧ (0 ≤ r.a ∧ r.a ≤ 1000000) ∧ (0 ≤ r.v ∧ r.v ≤ 9999) := by
  simp only [vR, Bool.and_eq_true, inB_iff] at h
  exact ⟨h.1.1, h.1.2, h.2⟩
theorem vt_size {r : Vr} (h : vR r = true) : (vt r).size ≤ 70 := by
  obtain ⟨h1, h2, h3⟩ := vR_nat h
  have a1 := dg_size r.t.toNat (by omega)
  have a2 := dg_size r.a.toNat (by omega)
  have a3 := dg_size r.v.toNat (by omega)
  have b1 : cln.size = 1 := rfl
  have b2 : mns.size = 1 := rfl
  have b3 : eqs.size = 1 := rfl
  simp only [vt, ByteArray.size_append]
  split
  · omega
  · simp only [ByteArray.size_append]; omega
theorem VT_size {R : Nat → Vr} : ∀ {m : Nat}, (∀ j, j < m → vR (R j) = true) → (VT R m).size ≤ 71 * m
  | 0, _ => by simp [VT]
  | m + 1, h => by
    have h1 := VT_size (R := R) (m := m) (fun j hj => h j (by omega))
    have h2 := vt_size (h m (by omega))
    have h3 : blk.size = 1 := rfl
    simp only [VT, ByteArray.size_append]
    omega
theorem decI_any (x : Int) (h0 : 0 ≤ x) (h1 : x ≤ 1000000000) (w : World) (hp : PowAt w) : Calls Tryz.prog 19 #[.int .i64 x] w fun e w' => e = .returned (.string (dg x.toNat)) ∧ Below w.heap.size w w' := by
  obtain ⟨n, rfl⟩ : ∃ n : Nat, x = n := ⟨x.toNat, by omega⟩
  exact decimal_any n (by omega) w hp
theorem digI_any (x : Int) (h0 : 0 ≤ x) (h1 : x ≤ 1000000000) (w : World) : Calls Tryz.prog 14 #[.int .i64 x] w fun e w' => e = .returned (.string (dg x.toNat)) ∧ Below w.heap.size w w' := by
  obtain ⟨n, rfl⟩ : ∃ n : Nat, x = n := ⟨x.toNat, by omega⟩
  exact l7Digits_any n (by omega) w
theorem l7Line_any (W : ByteArray) (L : List Int) (b c : Nat) (w : World) (hb : b < w.heap.size) (hc : ∀ (j : Nat) x, L[j]? = some x → w.cell? ⟨b, j, none⟩ = some (.int .i64 x)) (hr : ∀ x ∈ L, 0 ≤ x ∧ x ≤ 1000000000) (hl : L.length ≤ 100) (hlc : L.length ≤ c) (hW : W.size ≤ 100000) :
    Calls Tryz.prog 13 #[.string W, .slice (some ⟨b, 0, none⟩) L.length c] w fun e w' => e = .returned (.string (lnT W L ++ nl)) ∧ Below w.heap.size w w' := by
  have HC : Hid (∀ (j : Nat) x, L[j]? = some x → w.cell? ⟨b, j, none⟩ = some (.int .i64 x)) := hc
  have HR : Hid (∀ x ∈ L, 0 ≤ x ∧ x ≤ 1000000000) := hr
  have HW0 : Hid (Below w.heap.size w w) := Below.refl _ _
  have HV0 : Hid (W = lnT W (L.take 0)) := (rfl : W = lnT W (L.take 0))
  clear hc hr
  go_enter Tryz.func13, Tryz.ntmps13
  go_wp2_with fail
  go_loopw [0, 5] (fun v i wr => ∃ q : Nat, q ≤ L.length ∧ i = .int .i64 q ∧ Hid (Below w.heap.size w wr) ∧ v = .string (lnT W (L.take q))) (fun _ i _ => L.length - (intOf i).toNat)
  case atStart => exact ⟨0, Nat.zero_le _, rfl, HW0, by rw [← HV0.out]⟩
  case round =>
    clear HV0
    obtain ⟨q, hq, rfl, HB, rfl⟩ := hrel
    have hts : (lnT W (L.take q)).size ≤ 200000 := by
      have h := lnT_size (L.take q) W (fun x hx => HR.out x (List.mem_of_mem_take hx))
      have h2 : (L.take q).length ≤ 100 := by rw [List.length_take]; omega
      omega
    by_cases hlt : q < L.length
    · have hlt' : (q : Int) < (L.length : Int) := by omega
      have hq0 : (0 : Int) ≤ (q : Int) := by omega
      have hx : L[q]? = some L[q] := List.getElem?_eq_getElem hlt
      have hcell : wr.cell? ⟨b, q, none⟩ = some (.int .i64 L[q]) := (HB.out.cell (p := ⟨b, q, none⟩) hb).trans (HC.out q _ hx)
      have hin := HR.out L[q] (List.getElem_mem hlt)
      have HNX : Hid (lnT W (L.take (q + 1)) = (lnT W (L.take q) ++ blk) ++ dg (L[q]).toNat) := lnT_take W L q _ hx
      generalize L[q] = x at *
      clear hx
      obtain ⟨hx0, hx1⟩ := hin
      have hds := dg_size x.toNat (by omega)
      generalize lnT W (L.take q) = T at *
      have ha1 : ∀ u : World, (Op.stringOp .add T ⟨#[32]⟩).run Tryz.prog u = .ok (.string (T ++ blk)) u := fun u => run_string_add_sum u _ blk (by have : blk.size = 1 := rfl; omega)
      have ha2 : ∀ u : World, (Op.stringOp .add (T ++ blk) (dg x.toNat)).run Tryz.prog u = .ok (.string ((T ++ blk) ++ dg x.toNat)) u := fun u => run_string_add_sum u _ _ (by have : blk.size = 1 := rfl; rw [ByteArray.size_append]; omega)
      go_wp2_with fail
      refine (digI_any x hx0 hx1 _).mono ?_
      rintro e w2 ⟨rfl, hb2⟩
      have HB2 : Hid (Below w.heap.size w w2) := HB.out.trans (hb2.mono HB.out.size)
      clear hb2 hcell
      go_wp2_with fail
      go_roundw
      case rel => exact ⟨q + 1, hlt, by go_num, HB2, by rw [HNX.out]⟩
      case measure => simp [intOf]; omega
    · have hqn : q = L.length := by omega
      have HE : Hid (lnT W (L.take q) = lnT W L) := (by rw [hqn, List.take_length] : lnT W (L.take q) = lnT W L)
      generalize lnT W (L.take q) = T at *
      have ha1 : ∀ u : World, (Op.stringOp .add T ⟨#[10]⟩).run Tryz.prog u = .ok (.string (T ++ nl)) u := fun u => run_string_add_sum u _ nl (by have : nl.size = 1 := rfl; omega)
      have hge : ¬ (q : Int) < (L.length : Int) := by omega
      clear hqn
      go_wp2_with fail
      go_ret
      exact ⟨by rw [HE.out]; rfl, HB.out⟩
end Go.Proofs.YtaelpjjabkkhcaaGreatDoor
