/- spec.PlaceDisk. -/
import Derived.Test.YtldnfiadafmomaaPla
namespace Go.Proofs.Ytldnfiadafmomaa
open Go.RowKit Go.Deep
set_option linter.unusedVariables false
set_option maxRecDepth 20000

theorem l2Page_any (b : Nat) (idn : Int) (n : Nat) (a : Option Addr) (cap : Nat) (w : World) (hn : n ≤ 1048576) (h : w.cell? ⟨b, 0, none⟩ = some (.slice a n cap)) :
    Calls Try.prog 16 #[.pointer (some ⟨b, 0, none⟩), .int .i64 idn] w fun e w' => e = .returned (.bool (inB idn 0 ((n : Int) - 1))) ∧ w' = w := by
  go_enter Try.func16, Try.ntmps16
  go_wp2_with fail
  refine (l1In_any idn 0 ((n : Int) - 1) _).mono ?_
  rintro e w' ⟨rfl, hw'⟩
  rw [hw']
  clear hw' w'
  go_wp2_with fail
  go_ret
  exact ⟨rfl, rfl⟩
/-- A disk all of whose blocks lie from lo on, below hi. -/
def OwnR (w : World) (lo hi : Nat) (a a' : Option Addr) (D : Dk) : Prop := OwnP w lo hi a D.n D.L D.Z ∧ OwnL w lo hi a' D.m D.P D.T D.M D.Y
theorem OwnR.at {w : World} {lo hi : Nat} {a a' : Option Addr} {D : Dk} (h : OwnR w lo hi a a' D) : DiskAt w a a' D := ⟨h.1.at, h.2.at⟩
theorem OwnR.writes {w w' : World} {lo hi lo' hi' : Nat} {a a' : Option Addr} {D : Dk} (h : OwnR w lo hi a a' D) (hw : Writes lo' hi' w w') (hd : hi ≤ lo' ∨ hi' ≤ lo) : OwnR w' lo hi a a' D := ⟨h.1.writes hw hd, h.2.writes hw hd⟩
theorem OwnR.below {w w' : World} {lo hi : Nat} {a a' : Option Addr} {D : Dk} (h : OwnR w lo hi a a' D) (hb : Below w.heap.size w w') : OwnR w' lo hi a a' D := ⟨h.1.below hb, h.2.below hb⟩
theorem OwnR.wide {w : World} {lo hi lo' hi' : Nat} {a a' : Option Addr} {D : Dk} (h : OwnR w lo hi a a' D) (e1 : lo' ≤ lo) (e2 : hi ≤ hi') (e3 : hi' ≤ w.heap.size) : OwnR w lo' hi' a a' D := ⟨h.1.wide e1 e2 e3, h.2.wide e1 e2 e3⟩
/-- An answer that is a disk, for reading alone. -/
def SRd (c : Int) (X : Dk) (w : World) (e : Ending) (w' : World) : Prop :=
  ∃ a a' cap cap', e = .returned (.agg #[.int .i64 c, .slice a (rD c X).n cap, .slice a' (rD c X).m cap']) ∧ Below w.heap.size w w' ∧ OwnR w' w.heap.size w'.heap.size a a' (rD c X)
theorem srd_bad {c : Int} {X : Dk} {w w' : World} (hb : Below w.heap.size w w') (hc : c ≠ 0) : SRd c X w (.returned (.agg #[.int .i64 c, .slice none 0 0, .slice none 0 0])) w' := by
  unfold SRd rD
  rw [if_neg hc]
  exact ⟨none, none, 0, 0, rfl, hb, ⟨Nat.le_refl _, .inl rfl⟩, ⟨Nat.le_refl _, .inl rfl⟩⟩
end Go.Proofs.Ytldnfiadafmomaa
