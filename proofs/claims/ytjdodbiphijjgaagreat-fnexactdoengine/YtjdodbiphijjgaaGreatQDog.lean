import Derived.Test.YtjdodbiphijjgaaGreatQDof
import Derived.Test.YtjdodbiphijjgaaGreatQDod
namespace Go.Proofs.YtjdodbiphijjgaaGreat
open Go.RowKit Go.Deep Go.Shelf
set_option linter.unusedVariables false
set_option linter.unusedSimpArgs false
set_option maxRecDepth 20000
def InK (W:World) (lo hi:Nat) (la:Option Addr) (L:List (Int × Int)) (E:En) (a a':Option Addr) (G:En) (d d':Option Addr) (w:World):Prop:=
  W.heap.size≤lo∧lo≤hi∧hi≤w.heap.size∧Below W.heap.size W w∧Own w lo hi la L.length (kC L) (vC L)∧(OwnE2 w lo hi d d' G∨(d=a∧d'=a'∧G=E))
theorem InK.keep {W w w':World} {lo hi l1 h1:Nat} {la:Option Addr} {L:List (Int × Int)} {E G:En} {a a' d d':Option Addr} (h:InK W lo hi la L E a a' G d d' w) (hw:Writes l1 h1 w w') (e1:W.heap.size≤l1) (e2:hi≤l1∨h1≤lo):InK W lo hi la L E a a' G d d' w':=by
  obtain ⟨k1,k2,k3,k4,k5,k6⟩:=h;exact ⟨k1,k2,Nat.le_trans k3 hw.size,Writes.below k4 hw e1,k5.writes hw e2,k6.imp (fun k=>k.writes hw e2) id⟩
theorem InK.below {W w w':World} {lo hi:Nat} {la:Option Addr} {L:List (Int × Int)} {E G:En} {a a' d d':Option Addr} (h:InK W lo hi la L E a a' G d d' w) (hb:Below w.heap.size w w'):InK W lo hi la L E a a' G d d' w':=
  h.keep (Writes.of_below (lo:=hi) (hi:=hi) hb) (Nat.le_trans h.1 h.2.1) (.inl (Nat.le_refl _))
theorem InK.eng {W w:World} {lo hi:Nat} {la:Option Addr} {L:List (Int × Int)} {E G:En} {a a' d d':Option Addr} (h:InK W lo hi la L E a a' G d d' w) (hX:EngAt W a a' E):EngAt w d d' G:=by
  obtain ⟨k1,k2,k3,k4,k5,k6⟩:=h
  rcases k6 with k | ⟨rfl,rfl,rfl⟩
  · exact k.at
  · exact hX.below k4
theorem InK.own {W w:World} {lo hi:Nat} {la:Option Addr} {L:List (Int × Int)} {E G:En} {a a' d d':Option Addr} (h:InK W lo hi la L E a a' G d d' w):Own w W.heap.size w.heap.size la L.length (kC L) (vC L):=h.2.2.2.2.1.wide h.1 h.2.2.1 (Nat.le_refl _)
theorem InK.start {W u w2:World} {la:Option Addr} {L:List (Int × Int)} {E G:En} {a a' d d':Option Addr} (hb:Below W.heap.size W u) (hb2:Below u.heap.size u w2) (hL:Own w2 u.heap.size w2.heap.size la L.length (kC L) (vC L)) (hE:OwnE2 w2 u.heap.size w2.heap.size d d' G∨(d=a∧d'=a'∧G=E)):InK W u.heap.size w2.heap.size la L E a a' G d d' w2:=
  ⟨hb.size,hb2.size,Nat.le_refl _,below_then hb hb2,hL,hE⟩
end Go.Proofs.YtjdodbiphijjgaaGreat
