/- An act told by a line: as a function; the numbers that it writes; the program's decimal. -/
import Derived.Test.YtiflheclfgloaaaDoorYta
import Derived.Test.YtiflheclfgloaaaDoorYsh
import Derived.Test.YtiflheclfgloaaaDoorFault
import Derived.Lib.AppendIntMem
import Derived.Lib.Join
namespace Go.Proofs.YtiflheclfgloaaaDoor
open Go.RowKit Go.Deep
set_option linter.unusedVariables false
set_option maxRecDepth 20000

/-- The table of powers. -/
def PowAt (w : World) : Prop := Lib.TabIs Tryd.prog w "internal/strconv.uint64pow10" .u64 Lib.pow10Tab
theorem var_stay {P : Program} {n : String} {W W' : World} {cs : Array Value} (h : W.var? P n = some cs) (hb : Below W.heap.size W W') : W'.var? P n = some cs := by
  unfold World.var? at h ⊢
  cases hg : P.globalNamed n with
  | none => rw [hg] at h; simp at h
  | some g =>
    rw [hg] at h
    simp only [Option.bind_some] at h ⊢
    have hlt : g < W.heap.size := by
      rcases Nat.lt_or_ge g W.heap.size with h1 | h1
      · exact h1
      · rw [Array.getElem?_eq_none h1] at h
        simp at h
    rw [hb.block g hlt]
    exact h
theorem PowAt.below {w w' : World} (h : PowAt w) (hb : Below w.heap.size w w') : PowAt w' := var_stay h hb
theorem decimal_any (n : Nat) (hn : n ≤ 9223372036854775807) (w : World) (hp : PowAt w) : Calls Tryd.prog 27 #[.int .i64 n] w fun e w' => e = .returned (.string (dg n)) ∧ Below w.heap.size w w' := by
  have HP : Hid (PowAt w) := hp
  clear hp
  go_enter Tryd.func27, Tryd.ntmps27
  go_wp2_with fail
  refine (Tryd.strconv_FormatInt_10 n (by omega) (by omega) _ HP.out).mono ?_
  rintro e w1 ⟨rfl, k, os, rfl⟩
  have HB : Hid (Below w.heap.size w (Sort.grow (w.drewN k) os)) := Lib.below_grow _ _ (Nat.le_refl _) k os
  have HG : Hid ((⟨(Lib.itoa (n : Int)).toArray⟩ : ByteArray) = dg n) := by show (⟨(Lib.itoa (n : Int)).toArray⟩ : ByteArray) = dg n; rw [Lib.itoa_nonneg]; rfl
  rw [HG.out]
  go_wp2_with fail
  go_ret
  exact ⟨rfl, HB.out⟩
/-- The j-th number of an act. -/
def nm (x y z : Int) (j : Nat) : Int := if j = 0 then x else if j = 1 then y else z
def fok (x y z : Int) : Nat → Bool
  | 0 => true
  | m + 1 => fok x y z m && inB (nm x y z m) 0 999999999
theorem fok_le {x y z : Int} {j m : Nat} (h : fok x y z m = true) (hj : j < m) : inB (nm x y z j) 0 999999999 = true := by
  induction m with
  | zero => omega
  | succ m ih =>
    simp only [fok, Bool.and_eq_true] at h
    by_cases e : j = m
    · rw [e]; exact h.2
    · exact ih h.1 (by omega)
theorem fok_not {x y z : Int} {j m : Nat} (hj : j < m) (h : inB (nm x y z j) 0 999999999 = false) : fok x y z m = false := by
  cases e : fok x y z m with
  | false => rfl
  | true => rw [fok_le e hj] at h; exact absurd h (by decide)
/-- The words of the line, m numbers among them. -/
def fws (k : Nat) (x y z : Int) (m : Nat) : List ByteArray := fw k :: (List.range m).map fun j => dg (nm x y z j).toNat
theorem fws_succ (k : Nat) (x y z : Int) (m : Nat) : fws k x y z (m + 1) = fws k x y z m ++ [dg (nm x y z m).toNat] := by simp [fws, List.range_succ]
theorem fws_len (k : Nat) (x y z : Int) (m : Nat) : (fws k x y z m).length = m + 1 := by simp [fws]
def blk : ByteArray := ⟨#[32]⟩
def txt (L : List ByteArray) : ByteArray := ⟨(Lib.join (L.map (·.data.toList)) blk.data.toList).toArray⟩
theorem txt_zero (k : Nat) (x y z : Int) : txt (fws k x y z 0) = fw k := by
  simp only [txt, fws, List.range_zero, List.map_nil, List.map_cons, Lib.join_one]
theorem ba_append (a b : ByteArray) : a ++ b = ⟨(a.data.toList ++ b.data.toList).toArray⟩ := by
  obtain ⟨⟨x⟩⟩ := a
  obtain ⟨⟨y⟩⟩ := b
  rw [ByteArray.mk_append_mk]
theorem txt_succ (k : Nat) (x y z : Int) (m : Nat) : txt (fws k x y z (m + 1)) = txt (fws k x y z m) ++ blk ++ dg (nm x y z m).toNat := by
  rw [fws_succ]
  have e : ∀ M : List ByteArray, ∀ q : ByteArray, txt (fw k :: M ++ [q]) = txt (fw k :: M) ++ blk ++ q := fun M q => by
    simp only [txt, List.map_append, List.map_cons, List.map_nil, List.cons_append, Lib.join_cons, Lib.joinTail, List.flatten_append]
    rw [ba_append, ba_append]
    simp
  exact e _ _
theorem txt_size (k : Nat) (hk : k < 8) (x y z : Int) : ∀ m, fok x y z m = true → (txt (fws k x y z m)).size ≤ 6 + m * 21
  | 0, _ => by rw [txt_zero]; have := fw_size k hk; omega
  | m + 1, h => by
    have hb := fok_le h (Nat.lt_succ_self m)
    simp only [inB, Bool.and_eq_true, decide_eq_true_eq] at hb
    simp only [fok, Bool.and_eq_true] at h
    have ih := txt_size k hk x y z m h.1
    have hd := dg_size (nm x y z m).toNat (by omega)
    rw [txt_succ, ByteArray.size_append, ByteArray.size_append]
    have : blk.size = 1 := rfl
    omega
/-- The answer of FormatAct: its code, its text. -/
def ffit (k x y z : Int) : Bool := inB k 1 7 && fok x y z (fc k.toNat)
def fcode (k x y z : Int) : Int := if ffit k x y z = true then 0 else 3
def ftext (k x y z : Int) : ByteArray := if ffit k x y z = true then txt (fws k.toNat x y z (fc k.toNat)) else ByteArray.empty
theorem ff_no {k x y z : Int} (h : ffit k x y z = false) : fcode k x y z = 3 ∧ ftext k x y z = ByteArray.empty := by simp [fcode, ftext, h]
theorem ff_yes {k x y z : Int} (h : ffit k x y z = true) : fcode k x y z = 0 ∧ ftext k x y z = txt (fws k.toNat x y z (fc k.toNat)) := by simp [fcode, ftext, h]
def FRes (w : World) (k x y z : Int) (e : Ending) (w' : World) : Prop := e = .returned (.agg #[.int .i64 (fcode k x y z), .string (ftext k x y z)]) ∧ Below w.heap.size w w'
theorem isActKind_int (k : Int) (w : World) : Calls Tryd.prog 19 #[.int .i64 k] w fun e w' => e = .returned (.bool (inB k 1 7)) ∧ w' = w := by
  go_enter Tryd.func19, Tryd.ntmps19
  go_wp2_with fail
  refine (within_any _ _ _ _).mono ?_
  rintro e w' ⟨rfl, rfl⟩
  go_wp2_with fail
  go_ret
  exact ⟨rfl, rfl⟩
end Go.Proofs.YtiflheclfgloaaaDoor
