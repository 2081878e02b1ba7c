import Derived.Test.YtjdodbiphijjgaaGreatQDoc
import Derived.Laws.EntriesVeiled
namespace Go.Proofs.YtjdodbiphijjgaaGreat
open Go.RowKit Go.Deep Go.Shelf
set_option linter.unusedVariables false
set_option linter.unusedSimpArgs false
set_option maxRecDepth 20000
theorem do_fault {E:En} {r:Dk} (h:eF E≠0):doC E r=eF E:=if_neg h
theorem do_kind {E:En} {r:Dk} (h:eF E=0) (hk:inB r.k 1 7=false):doC E r=3:=by unfold doC;rw [if_pos h,hk];rfl
theorem do_ok {E:En} {r:Dk} (h:eF E=0) (hk:inB r.k 1 7=true):doC E r=0:=by unfold doC;rw [if_pos h,if_pos hk]
theorem dor_ok {w W w2 W3 w4 w7:World} {la d d':Option Addr} {lc cd cd':Nat} {L:List (Int × Int)} {G:En} {s lo:Nat} (hb:Below w.heap.size w W) (hs:s=w.heap.size) (hsz:s+3≤W.heap.size) (hb2:Below W.heap.size W w2) (hL:Own w2 W.heap.size w2.heap.size la L.length (kC L) (vC L))
    (hb3:Below w2.heap.size w2 W3) (hb4:Below W3.heap.size W3 w4) (hlo:w2.heap.size≤lo) (hE:OwnE w4 lo w4.heap.size d d' G) (hw:Writes (s+1+1) (s+1+1+1) w4 w7) (h7:w7.heap.size=w4.heap.size) (rc rv:Int) :
    DoR 0 rc rv L G w (.returned (.agg #[.int .i64 0,.int .i64 rc,.int .i64 rv,.slice la L.length lc,.int .i64 G.nx,.int .i64 G.ck,.slice d G.p cd,.slice d' G.q cd'])) w7:=by
  have z1:=hb.size;have z2:=hb2.size;have z3:=hb3.size;have z4:=hb4.size;have hbw:Below w.heap.size w w4:=below_then (below_then (below_then hb hb2) hb3) hb4;have e0:=hE.1;exact ⟨la,lc,d,cd,d',cd',rfl,Writes.below hbw hw (by omega),Nat.le_refl _,W.heap.size,w2.heap.size,lo,w4.heap.size,.inl hlo,z1,by omega,by omega,by omega,((hL.below hb3).below hb4).writes hw (by omega),hE.writes hw (by omega)⟩
set_option maxHeartbeats 16000000 in
theorem specDo_any (E:En) (r:Dk) (a:Option Addr) (cap:Nat) (a':Option Addr) (cap':Nat) (w:World) (hs:SmallE E) (h:EngAt w a a' E) :
    Calls Tryz.prog 20 #[.agg #[.int .i64 E.nx,.int .i64 E.ck,.slice a E.p cap,.slice a' E.q cap'],.agg #[.int .i64 r.k,.int .i64 r.t,.int .i64 r.y,.int .i64 r.o]] w (DoR (doC E r) (drC E r) (drV E r) (drL E r) (drE E r) w):=by
  have HX:Hid (EngAt w a a' E):=h;have HS:Hid (SmallE E):=hs;have B1:=BxD.start w E r (.slice a E.p cap) (.slice a' E.q cap') 30 50 48;have HB1:Hid (BxD w _ E r (.slice a E.p cap) (.slice a' E.q cap')):=B1;clear B1 h hs;go_enter Tryz.func20,Tryz.ntmps20;go_wp2_with fail;refine (l6Fault_any E w.heap.size a cap a' cap' _ HS.out ⟨HB1.out.e,HX.out.below HB1.out.below⟩).mono ?_;rintro e W ⟨rfl,hb1⟩;have B2:=HB1.out.mono hb1;have HB:Hid (BxD w W E r (.slice a E.p cap) (.slice a' E.q cap')):=B2;clear hb1 HB1 B2;obtain ⟨e0,e1,e2,e3⟩:=HB.out.e;obtain ⟨a0,a1,a2,a3⟩:=HB.out.a;obtain ⟨⟨r0,r1,r2,r3⟩,r4,r5,r6,r7⟩:=HB.out.r;have rf:=HB.out.rf;have hsz:=HB.out.hsz;have HBW:Hid (Below w.heap.size w W):=HB.out.below
  by_cases hc:eF E=0
  case neg=>
    have HF:Hid (∀w7,Below w.heap.size w w7→DoR (doC E r) (drC E r) (drV E r) (drL E r) (drE E r) w (.returned (.agg #[.int .i64 (eF E),.int .i64 0,.int .i64 0,.slice none 0 0,.int .i64 0,.int .i64 0,.slice none 0 0,.slice none 0 0])) w7):=fun w7 hb=>by
      obtain ⟨k1,k2,k3,k4⟩:=dr_bad (do_fault (r:=r) hc) hc;rw [k1,k2,k3,k4,do_fault hc];exact dor_bad hb
    have hc2:(eF E != 0)=true:=(by simp [hc]);clear hc;generalize eF E=uu at *;go_wp2_with fail;refine bodyPost_ret (v:=.agg #[.int .i64 uu,.int .i64 0,.int .i64 0,.slice none 0 0,.int .i64 0,.int .i64 0,.slice none 0 0,.slice none 0 0]) (by simp [results,Tryz.results20,go_sem, *]) rfl ?_;refine HF.out _ ?_
    repeat (first | with_reducible exact HB.out.below | with_reducible refine Below.setCell ?_ (by first | omega | (simp <;> omega)) _)
  have HC0:Hid (eF E=0):=hc;rw [hc];clear hc;go_wp2_with fail;refine (l1In_any r.k 1 7 _).mono ?_;rintro e w2 ⟨rfl,hw2⟩;obtain rfl:=hw2.symm
  rcases (bool_orW (inB r.k 1 7)).symm with hk | hk
  · have HF:Hid (∀w7,Below w.heap.size w w7→DoR (doC E r) (drC E r) (drV E r) (drL E r) (drE E r) w (.returned (.agg #[.int .i64 3,.int .i64 0,.int .i64 0,.slice none 0 0,.int .i64 0,.int .i64 0,.slice none 0 0,.slice none 0 0])) w7):=fun w7 hb=>by
      obtain ⟨k1,k2,k3,k4⟩:=dr_bad (do_kind HC0.out hk) (by decide);rw [k1,k2,k3,k4,do_kind HC0.out hk];exact dor_bad hb
    rw [hk];clear hk;go_wp2_with fail;refine bodyPost_ret (v:=.agg #[.int .i64 3,.int .i64 0,.int .i64 0,.slice none 0 0,.int .i64 0,.int .i64 0,.slice none 0 0,.slice none 0 0]) (by simp [results,Tryz.results20,go_sem, *]) rfl ?_;refine HF.out _ ?_
    repeat (first | with_reducible exact HB.out.below | with_reducible refine Below.setCell ?_ (by first | omega | (simp <;> omega)) _)
  have HK:Hid (doC E r=0):=do_ok HC0.out hk;rw [hk];clear hk;go_wp2_with fail;refine (l9e_any E r a cap a' cap' _ HS.out (HX.out.below HB.out.below)).mono ?_;rintro e w2 ⟨la,lc,d,cd,d',cd',rfl,hb2,hL,hG⟩;obtain ⟨k1,k2,k3,k4⟩:=dr_ok HK.out;have HEQ:Hid (doC E r=0∧drC E r=dnC E r∧drV E r=dnW E r∧drL E r=dnL E r∧drE E r=dnE E r):=⟨HK.out,k1,k2,k3,k4⟩;have hEG:=eF_dn HC0.out r;clear k1 k2 k3 k4 HK;have HL2:Hid (Own w2 W.heap.size w2.heap.size la (dnL E r).length (kC (dnL E r)) (vC (dnL E r))):=hL;have HG2:Hid (EngAt w2 d d' (dnE E r)):=hG;have HBB:Hid (Below W.heap.size W w2):=hb2;generalize dnL E r=L at *;generalize dnE E r=G at *;generalize dnC E r=rc at *;generalize dnW E r=rv at *;have HFW:Hid (G.p≤20∧G.q≤32∧(∀i,i<G.p→(G.T i).n≤60)∧∀i,i<G.q→(G.R i).n≤12):=eF_few hEG;clear hEG hL hG hb2 e0 e1 e2 e3 a0 a1 a2 a3 r0 r1 r2 r3 r4 r5 r6 r7 rf;go_wp2_with fail;obtain ⟨W3,hW3⟩:∃W3,W3=(w2.alloc (.cells #[.int .i64 rc,.int .i64 rv,.slice la L.length lc] 46)).alloc (.cells #[.int .i64 G.nx,.int .i64 G.ck,.slice d G.p cd,.slice d' G.q cd'] 30):=⟨_,rfl⟩;have HB3:Hid (Below w2.heap.size w2 W3):=(by rw [hW3];exact ((Below.refl _ _).alloc (Nat.le_refl _) _).alloc (by simp) _);have HT:Hid (Box3 W3 w2.heap.size (.int .i64 rc) (.int .i64 rv) (.slice la L.length lc)):=(by rw [hW3];exact (Box3.new w2 _ _ _ _).alloc _);have HU:Box4 W3 (w2.heap.size+1) (.int .i64 G.nx) (.int .i64 G.ck) (.slice d G.p cd) (.slice d' G.q cd'):=(by rw [hW3];simp [Box4,go_sem]);have HZ3:Hid (W3.heap.size=w2.heap.size+2):=(by rw [hW3];show _=_;simp);rw [←hW3];clear hW3;have HB4:Hid (BxD w W3 E r (.slice a E.p cap) (.slice a' E.q cap')):=(HB.out.mono HBB.out).mono HB3.out;have HG3:Hid (∀o:Nat,EngAt (W3.drewN o) d d' G):=fun o=>(HG2.out.below HB3.out).below (below_drewN (Below.refl _ _) o);have HG4:Hid (EngAt W3.drew d d' G):=(HG2.out.below HB3.out).below ((Below.refl _ _).drew);obtain ⟨t0,t1,t2⟩:=HT.out;obtain ⟨u0,u1,u2,u3⟩:=HU;clear HB;go_region_law (first | (go_simp;go_at_call 77;refine (l6Copy_any G d cd d' cd' _ HFW.out.1 HFW.out.2.1 HFW.out.2.2.1 HFW.out.2.2.2 HG4.out).mono ?_;rintro e w4 hA;obtain ⟨x,cx,x',cx',rfl,hb4,hE4⟩:=hA.own;have hb4':=((Below.refl W3.heap.size W3).drew).trans hb4;obtain ⟨s0,s1,s2⟩:=HT.out.below hb4';obtain ⟨⟨r0,r1,r2,r3⟩,r4,r5,r6,r7⟩:=(HB4.out.mono hb4').r;have rf:=(HB4.out.mono hb4').rf;have HB5:Hid (Below W3.heap.size W3 w4):=hb4';have HE5:Hid (OwnE w4 W3.heap.size w4.heap.size x x' G):=hE4;have hz5:=(HB4.out.mono hb4').hsz;clear hA hb4 hb4' hE4))
  all_goals
    have HF:Hid (∀w7,Writes (w.heap.size+1+1) (w.heap.size+1+1+1) w4 w7→w7.heap.size=w4.heap.size→DoR (doC E r) (drC E r) (drV E r) (drL E r) (drE E r) w (.returned (.agg #[.int .i64 0,.int .i64 rc,.int .i64 rv,.slice la L.length lc,.int .i64 G.nx,.int .i64 G.ck,.slice x G.p cx,.slice x' G.q cx'])) w7):=fun w7 hw h7=>by
      obtain ⟨k0,k1,k2,k3,k4⟩:=HEQ.out;rw [k0,k1,k2,k3,k4];exact dor_ok HBW.out rfl hsz HBB.out HL2.out HB3.out HB5.out (by have:=HZ3.out;omega) HE5.out hw h7 rc rv
    clear HEQ HL2 HG2 HFW HG3 HG4 HB4;generalize L.length=ln at *;go_wp2_with fail;refine bodyPost_ret (v:=.agg #[.int .i64 0,.int .i64 rc,.int .i64 rv,.slice la ln lc,.int .i64 G.nx,.int .i64 G.ck,.slice x G.p cx,.slice x' G.q cx']) (by simp [results,Tryz.results20,go_sem, *]) rfl ?_;refine HF.out _ ?_ (by simp [World.setCell])
    repeat (first | with_reducible exact Writes.refl _ _ _ | with_reducible refine Writes.drew1 ?_ | with_reducible refine Writes.setCell ?_ (by first | omega | (simp <;> omega)) (by first | omega | (simp <;> omega)) _)
theorem isActK9_any (v:Int) (w:World):Calls Tryz.prog 79 #[.int .i64 v] w fun e w'=>e=.returned (.bool (inB v 1 7))∧w'=w:=by
  go_enter Tryz.func79,Tryz.ntmps79;go_wp2_with fail;refine (within_any v 1 7 _).mono ?_;rintro e w1 ⟨rfl,hw1⟩;obtain rfl:=hw1.symm;go_wp2_with fail;go_ret;exact ⟨rfl,rfl⟩
def actsO:Obj:=.cells #[.nilFunc,.func (.func 146) #[] #[],.func (.func 148) #[] #[],.func (.func 150) #[] #[],.func (.func 151) #[] #[],.func (.func 152) #[] #[],.func (.func 153) #[] #[],.func (.func 154) #[] #[]] 203
theorem actOf1 (w:World):Calls Tryz.prog 80 #[.int .i64 1] w fun e w'=>e=.returned (.func (.func 146) #[] #[])∧w'=w.alloc actsO:=by
  go_enter Tryz.func80,Tryz.ntmps80;go_wp2_with fail;go_ret;exact ⟨rfl,rfl⟩
theorem actOf2 (w:World):Calls Tryz.prog 80 #[.int .i64 2] w fun e w'=>e=.returned (.func (.func 148) #[] #[])∧w'=w.alloc actsO:=by
  go_enter Tryz.func80,Tryz.ntmps80;go_wp2_with fail;go_ret;exact ⟨rfl,rfl⟩
theorem actOf3 (w:World):Calls Tryz.prog 80 #[.int .i64 3] w fun e w'=>e=.returned (.func (.func 150) #[] #[])∧w'=w.alloc actsO:=by
  go_enter Tryz.func80,Tryz.ntmps80;go_wp2_with fail;go_ret;exact ⟨rfl,rfl⟩
theorem actOf4 (w:World):Calls Tryz.prog 80 #[.int .i64 4] w fun e w'=>e=.returned (.func (.func 151) #[] #[])∧w'=w.alloc actsO:=by
  go_enter Tryz.func80,Tryz.ntmps80;go_wp2_with fail;go_ret;exact ⟨rfl,rfl⟩
theorem actOf5 (w:World):Calls Tryz.prog 80 #[.int .i64 5] w fun e w'=>e=.returned (.func (.func 152) #[] #[])∧w'=w.alloc actsO:=by
  go_enter Tryz.func80,Tryz.ntmps80;go_wp2_with fail;go_ret;exact ⟨rfl,rfl⟩
theorem actOf6 (w:World):Calls Tryz.prog 80 #[.int .i64 6] w fun e w'=>e=.returned (.func (.func 153) #[] #[])∧w'=w.alloc actsO:=by
  go_enter Tryz.func80,Tryz.ntmps80;go_wp2_with fail;go_ret;exact ⟨rfl,rfl⟩
theorem actOf7 (w:World):Calls Tryz.prog 80 #[.int .i64 7] w fun e w'=>e=.returned (.func (.func 154) #[] #[])∧w'=w.alloc actsO:=by
  go_enter Tryz.func80,Tryz.ntmps80;go_wp2_with fail;go_ret;exact ⟨rfl,rfl⟩
theorem replyOf_any (c v:Int) (w:World):Calls Tryz.prog 149 #[.agg #[.int .i64 c,.int .i64 v]] w fun e w'=>e=.returned (.agg #[.int .i64 c,.int .i64 v,.slice none 0 0])∧Below w.heap.size w w':=by
  have hb0:∀o1 o2,Below w.heap.size w ((w.alloc o1).alloc o2):=fun o1 o2=>((Below.refl _ _).alloc (Nat.le_refl _) _).alloc (by simp) _;go_enter Tryz.func149,Tryz.ntmps149;go_wp2_with fail;refine bodyPost_ret (v:=.agg #[.int .i64 c,.int .i64 v,.slice none 0 0]) (by simp [results,Tryz.results149,go_sem, *]) rfl ⟨rfl,?_⟩
  repeat (first | with_reducible exact Below.refl _ _ | with_reducible apply Below.drew | with_reducible refine Below.setCell ?_ (by first | omega | (simp <;> omega)) _ | with_reducible refine Below.alloc ?_ (by first | omega | (simp <;> omega)) _)
theorem turnedBy_any (c v nx ck:Int) (d:Option Addr) (p cd:Nat) (d':Option Addr) (q cd':Nat) (w:World):Calls Tryz.prog 147 #[.agg #[.int .i64 c,.int .i64 v,.int .i64 nx,.int .i64 ck,(.slice d p cd),(.slice d' q cd')]] w fun e w'=>e=.returned (.tuple #[.agg #[.int .i64 c,.int .i64 v,.slice none 0 0],.agg #[.int .i64 nx,.int .i64 ck,(.slice d p cd),(.slice d' q cd')]])∧Below w.heap.size w w':=by
  go_enter Tryz.func147,Tryz.ntmps147;go_wp2_with fail;go_region;go_wp2_with fail;refine bodyPost_ret (v:=.tuple #[.agg #[.int .i64 c,.int .i64 v,.slice none 0 0],.agg #[.int .i64 nx,.int .i64 ck,(.slice d p cd),(.slice d' q cd')]]) (by simp [results,Tryz.results147,go_sem, *]) rfl ⟨rfl,?_⟩
  repeat (first | with_reducible exact Below.refl _ _ | with_reducible apply Below.drew | with_reducible refine Below.setCell ?_ (by first | omega | (simp <;> omega)) _ | with_reducible refine Below.alloc ?_ (by first | omega | (simp <;> omega)) _)
end Go.Proofs.YtjdodbiphijjgaaGreat
