import Derived.Test.YtjdodbiphijjgaaGreatJDoc
import Derived.Laws.EntriesVeiled
namespace Go.Proofs.YtjdodbiphijjgaaGreat
open Go.RowKit Go.Deep Go.Shelf
set_option linter.unusedVariables false
set_option linter.unusedSimpArgs false
set_option maxRecDepth 20000
theorem isActK9_any (v:Int) (w:World):Calls Tryz.prog 79 #[.int .i64 v] w fun e w'=>e=.returned (.bool (inB v 1 7))∧w'=w:=by
  go_enter Tryz.func79,Tryz.ntmps79;go_wp2_with fail;refine (within_any v 1 7 _).mono ?_;rintro e w1 ⟨rfl,hw1⟩;obtain rfl:=hw1.symm;go_wp2_with fail;go_ret;exact ⟨rfl,rfl⟩
def actsO:Obj:=.cells #[.nilFunc,.func (.func 146) #[] #[],.func (.func 148) #[] #[],.func (.func 150) #[] #[],.func (.func 151) #[] #[],.func (.func 152) #[] #[],.func (.func 153) #[] #[],.func (.func 154) #[] #[]] 203
theorem actOf1 (w:World):Calls Tryz.prog 80 #[.int .i64 1] w fun e w'=>e=.returned (.func (.func 146) #[] #[])∧w'=w.alloc actsO:=by
  go_enter Tryz.func80,Tryz.ntmps80;go_wp2_with fail;go_ret;exact ⟨rfl,rfl⟩
theorem actOf2 (w:World):Calls Tryz.prog 80 #[.int .i64 2] w fun e w'=>e=.returned (.func (.func 148) #[] #[])∧w'=w.alloc actsO:=by
  go_enter Tryz.func80,Tryz.ntmps80;go_wp2_with fail;go_ret;exact ⟨rfl,rfl⟩
theorem actOf3 (w:World):Calls Tryz.prog 80 #[.int .i64 3] w fun e w'=>e=.returned (.func (.func 150) #[] #[])∧w'=w.alloc actsO:=by
  go_enter Tryz.func80,Tryz.ntmps80;go_wp2_with fail;go_ret;exact ⟨rfl,rfl⟩
theorem actOf4 (w:World):Calls Tryz.prog 80 #[.int .i64 4] w fun e w'=>e=.returned (.func (.func 151) #[] #[])∧w'=w.alloc actsO:=by
  go_enter Tryz.func80,Tryz.ntmps80;go_wp2_with fail;go_ret;exact ⟨rfl,rfl⟩
theorem actOf5 (w:World):Calls Tryz.prog 80 #[.int .i64 5] w fun e w'=>e=.returned (.func (.func 152) #[] #[])∧w'=w.alloc actsO:=by
  go_enter Tryz.func80,Tryz.ntmps80;go_wp2_with fail;go_ret;exact ⟨rfl,rfl⟩
theorem actOf6 (w:World):Calls Tryz.prog 80 #[.int .i64 6] w fun e w'=>e=.returned (.func (.func 153) #[] #[])∧w'=w.alloc actsO:=by
  go_enter Tryz.func80,Tryz.ntmps80;go_wp2_with fail;go_ret;exact ⟨rfl,rfl⟩
theorem actOf7 (w:World):Calls Tryz.prog 80 #[.int .i64 7] w fun e w'=>e=.returned (.func (.func 154) #[] #[])∧w'=w.alloc actsO:=by
  go_enter Tryz.func80,Tryz.ntmps80;go_wp2_with fail;go_ret;exact ⟨rfl,rfl⟩
theorem replyOf_any (c v:Int) (w:World):Calls Tryz.prog 149 #[.agg #[.int .i64 c,.int .i64 v]] w fun e w'=>e=.returned (.agg #[.int .i64 c,.int .i64 v,.slice none 0 0])∧Below w.heap.size w w':=by
  have hb0:∀o1 o2,Below w.heap.size w ((w.alloc o1).alloc o2):=fun o1 o2=>((Below.refl _ _).alloc (Nat.le_refl _) _).alloc (by simp) _;go_enter Tryz.func149,Tryz.ntmps149;go_wp2_with fail;refine bodyPost_ret (v:=.agg #[.int .i64 c,.int .i64 v,.slice none 0 0]) (by simp [results,Tryz.results149,go_sem, *]) rfl ⟨rfl,?_⟩
  repeat (first | with_reducible exact Below.refl _ _ | with_reducible apply Below.drew | with_reducible refine Below.setCell ?_ (by first | omega | (simp <;> omega)) _ | with_reducible refine Below.alloc ?_ (by first | omega | (simp <;> omega)) _)
theorem turnedBy_any (c v nx ck:Int) (d:Option Addr) (p cd:Nat) (d':Option Addr) (q cd':Nat) (w:World):Calls Tryz.prog 147 #[.agg #[.int .i64 c,.int .i64 v,.int .i64 nx,.int .i64 ck,(.slice d p cd),(.slice d' q cd')]] w fun e w'=>e=.returned (.tuple #[.agg #[.int .i64 c,.int .i64 v,.slice none 0 0],.agg #[.int .i64 nx,.int .i64 ck,(.slice d p cd),(.slice d' q cd')]])∧Below w.heap.size w w':=by
  go_enter Tryz.func147,Tryz.ntmps147;go_wp2_with fail;go_region;go_wp2_with fail;refine bodyPost_ret (v:=.tuple #[.agg #[.int .i64 c,.int .i64 v,.slice none 0 0],.agg #[.int .i64 nx,.int .i64 ck,(.slice d p cd),(.slice d' q cd')]]) (by simp [results,Tryz.results147,go_sem, *]) rfl ⟨rfl,?_⟩
  repeat (first | with_reducible exact Below.refl _ _ | with_reducible apply Below.drew | with_reducible refine Below.setCell ?_ (by first | omega | (simp <;> omega)) _ | with_reducible refine Below.alloc ?_ (by first | omega | (simp <;> omega)) _)
theorem do_fault {E:En} {r:Dk} (h:eF E≠0):doC E r=eF E:=if_neg h
theorem do_kind {E:En} {r:Dk} (h:eF E=0) (hk:inB r.k 1 7=false):doC E r=3:=by unfold doC;rw [if_pos h,hk];rfl
theorem do_ok {E:En} {r:Dk} (h:eF E=0) (hk:inB r.k 1 7=true):doC E r=0:=by unfold doC;rw [if_pos h,if_pos hk]
theorem dor_ok {w W w2 W3 w4 w7:World} {la d d':Option Addr} {lc cd cd':Nat} {L:List (Int × Int)} {G:En} {s lo:Nat} (hb:Below w.heap.size w W) (hs:s=w.heap.size) (hsz:s+3≤W.heap.size) (hb2:Below W.heap.size W w2) (hL:Own w2 W.heap.size w2.heap.size la L.length (kC L) (vC L))
    (hb3:Below w2.heap.size w2 W3) (hb4:Below W3.heap.size W3 w4) (hlo:w2.heap.size≤lo) (hE:OwnE w4 lo w4.heap.size d d' G) (hw:Writes (s+1+1) (s+1+1+1) w4 w7) (h7:w7.heap.size=w4.heap.size) (rc rv:Int) :
    DoR 0 rc rv L G w (.returned (.agg #[.int .i64 0,.int .i64 rc,.int .i64 rv,.slice la L.length lc,.int .i64 G.nx,.int .i64 G.ck,.slice d G.p cd,.slice d' G.q cd'])) w7:=by
  have z1:=hb.size;have z2:=hb2.size;have z3:=hb3.size;have z4:=hb4.size;have hbw:Below w.heap.size w w4:=below_then (below_then (below_then hb hb2) hb3) hb4;have e0:=hE.1;exact ⟨la,lc,d,cd,d',cd',rfl,Writes.below hbw hw (by omega),Nat.le_refl _,W.heap.size,w2.heap.size,lo,w4.heap.size,.inl hlo,z1,by omega,by omega,by omega,((hL.below hb3).below hb4).writes hw (by omega),hE.writes hw (by omega)⟩
end Go.Proofs.YtjdodbiphijjgaaGreat
