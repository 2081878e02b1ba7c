import Derived.Test.YtjdodbiphijjgaaGreatJGc
import Derived.Test.YtjdodbiphijjgaaGreatJVg
import Derived.Test.YtjdodbiphijjgaaGreatJDoa
namespace Go.Proofs.YtjdodbiphijjgaaGreat
open Go.RowKit Go.Deep
set_option linter.unusedVariables false
set_option maxRecDepth 20000
def cmp3 (a b:Int):Int:=if a<b then -1 else if b<a then 1 else 0
theorem isNaN_any (x:Int) (w:World):Calls Tryz.prog 234 #[.int .i64 x] w fun e w'=>e=.returned (.bool false)∧w'=w:=by
  have e1:(x != x)=false:=(by simp);go_enter Tryz.func234,Tryz.ntmps234;go_wp2_with fail;go_ret;exact ⟨rfl,rfl⟩
theorem compare_any (x y:Int) (w:World):Calls Tryz.prog 209 #[.int .i64 x,.int .i64 y] w fun e w'=>e=.returned (.int .i64 (cmp3 x y))∧w'=w:=by
  have HE:Hid (cmp3 x y=if x<y then -1 else if y<x then 1 else 0):=rfl
  by_cases h1:x<y
  · have HE2:Hid (cmp3 x y=-1):=HE.out.trans (if_pos h1);clear HE;go_enter Tryz.func209,Tryz.ntmps209;go_wp2_with (first | (go_at_call 234;refine (isNaN_any _ _).mono ?_;rintro e w' ⟨rfl,rfl⟩));go_ret;exact ⟨ret_int HE2.out.symm,rfl⟩
  · by_cases h2:y<x
    · have HE2:Hid (cmp3 x y=1):=HE.out.trans ((if_neg h1).trans (if_pos h2));clear HE;go_enter Tryz.func209,Tryz.ntmps209;go_wp2_with (first | (go_at_call 234;refine (isNaN_any _ _).mono ?_;rintro e w' ⟨rfl,rfl⟩));go_ret;exact ⟨ret_int HE2.out.symm,rfl⟩
    · have HE2:Hid (cmp3 x y=0):=HE.out.trans ((if_neg h1).trans (if_neg h2));clear HE;go_enter Tryz.func209,Tryz.ntmps209;go_wp2_with (first | (go_at_call 234;refine (isNaN_any _ _).mono ?_;rintro e w' ⟨rfl,rfl⟩));go_ret;exact ⟨ret_int HE2.out.symm,rfl⟩
theorem place1_any (k key:Int) (ai:Option Addr) (n ci:Nat) (w:World):Calls Tryz.prog 208 #[.agg #[.int .i64 k,.slice ai n ci],.int .i64 key] w fun e w'=>e=.returned (.int .i64 (cmp3 k key))∧Below w.heap.size w w':=by
  go_enter Tryz.func208,Tryz.ntmps208;go_wp2_with fail;refine (compare_any k key _).mono ?_;rintro e w1 ⟨rfl,hw1⟩;have HB:Hid (Below w.heap.size w w1):=(by rw [hw1];exact below_new _ _);clear hw1;go_wp2_with fail;go_ret;exact ⟨rfl,HB.out⟩
def Pl (q:Nat) (R:Nat→Rw) (key:Int) (i:Nat):Prop:=i≤q∧(∀x,x<i→(R x).key<key)∧(∀x,i≤x→x<q→key≤(R x).key)
def plF (q:Nat) (R:Nat→Rw) (key:Int) (i:Nat):Bool:=decide (i<q) && (R i).key == key
set_option maxHeartbeats 4000000 in
theorem bsearch_any (q:Nat) (R:Nat→Rw) (a:Option Addr) (cap:Nat) (key:Int) (w:World) (hq:q≤1048576) (hs:∀j,j<q→∀i,i<j→(R i).key<(R j).key) (h:RwsAt w a q R) :
    Calls Tryz.prog 207 #[.slice a q cap,.int .i64 key,.func (.func 208) #[] #[]] w fun e w'=>∃i:Nat,e=.returned (.tuple #[.int .i64 i,.bool (plF q R key i)])∧Pl q R key i∧Below w.heap.size w w':=by
  have HA:Hid (RwsAt w a q R):=h;have HS:Hid (∀j,j<q→∀i,i<j→(R i).key<(R j).key):=hs;clear h hs;go_enter Tryz.func207,Tryz.ntmps207;go_wp2_with fail;go_loopw [9,10,11] (fun i j _ wr=>∃x y:Nat,i=.int .i64 x∧j=.int .i64 y∧x≤y∧y≤q∧Hid ((∀z,z<x→(R z).key<key)∧(∀z,y≤z→z<q→key≤(R z).key))∧Hid (Below w.heap.size w wr)) (fun i j _ _=>(intOf j).toNat-(intOf i).toNat)
  case atStart=>exact ⟨0,q,rfl,rfl,Nat.zero_le _,Nat.le_refl _,⟨fun z hz=>by omega,fun z h1 h2=>by omega⟩,Below.refl _ _⟩
  case round=>
    obtain ⟨x,y,rfl,rfl,hxy,hyq,HI,HB⟩:=hrel
    by_cases hlt:x<y
    · have hlt':(x:Int)<(y:Int):=by omega
      obtain ⟨d,hd1,hd2,hdE⟩:∃d:Nat,x≤d∧d<y∧((x:Int)+(y:Int)) / 2=(d:Int):=⟨(x+y) / 2,by omega,by omega,by omega⟩;go_upto_region 5 with fail;clear hdE
      rcases HA.out.below HB.out with h | ⟨bb,off,rfl,hl,hcc⟩
      · omega
      obtain ⟨ai,ci,⟨x0,x1⟩,-⟩:=hcc d (by omega);have hd3:(d:Int)<(q:Int):=(by omega);have hd4:(0:Int)≤(d:Int):=(by omega);have HD:Hid (d<q∧x≤d∧d<y):=⟨by omega,hd1,hd2⟩;clear hcc;go_wp2_with fail;refine (place1_any (R d).key key ai (R d).n ci wr).mono ?_;rintro e w1 ⟨rfl,hb1⟩;have HB1:Hid (Below w.heap.size w w1):=below_then HB.out hb1;clear hb1 x0 x1
      by_cases hc:(R d).key<key
      · have e1:cmp3 (R d).key key=-1:=if_pos hc
        have HI2:Hid ((∀z,z<d+1→(R z).key<key)∧(∀z,y≤z→z<q→key≤(R z).key)):=⟨fun z hz=>by
          by_cases e:z=d
          · rw [e];exact hc
          · have:=HS.out d HD.out.1 z (by omega);omega,HI.out.2⟩
        rw [e1];clear e1 hc HI;go_wp2_with fail;go_roundw
        case rel=>exact ⟨d+1,y,by go_num,rfl,by omega,hyq,HI2,HB1⟩
        case measure=>simp [intOf];omega
      · have e1:¬(cmp3 (R d).key key<0):=by
          unfold cmp3;rw [if_neg hc]
          split <;> decide
        have HI2:Hid ((∀z,z<x→(R z).key<key)∧(∀z,d≤z→z<q→key≤(R z).key)):=⟨HI.out.1,fun z h1 h2=>by
          by_cases e:z=d
          · rw [e];omega
          · have:=HS.out z h2 d (by omega);omega⟩
        generalize cmp3 (R d).key key=cv at *;clear hc HI;go_wp2_with fail;go_roundw
        case rel=>exact ⟨x,d,rfl,rfl,by omega,by omega,HI2,HB1⟩
        case measure=>simp [intOf];omega
    · have hxe:x=y:=by omega
      subst hxe;have hnl:¬((x:Int)<(x:Int)):=(by omega);have HP:Hid (Pl q R key x):=⟨hyq,HI.out.1,HI.out.2⟩;have HF:Hid (plF q R key x=(decide (x<q) && (R x).key == key)):=rfl
      by_cases hxq:x<q
      · rcases HA.out.below HB.out with h | ⟨bb,off,rfl,hl,hcc⟩
        · omega
        obtain ⟨ai,ci,⟨x0,x1⟩,-⟩:=hcc x hxq;have hd3:(x:Int)<(q:Int):=(by omega);have hd4:(0:Int)≤(x:Int):=(by omega);have hd5:decide (x<q)=true:=(by simp;exact hxq);clear hcc HI;go_wp2_with fail;refine (place1_any (R x).key key ai (R x).n ci wr).mono ?_;rintro e w1 ⟨rfl,hb1⟩;have HB1:Hid (Below w.heap.size w w1):=below_then HB.out hb1
        have HE:Hid (plF q R key x=(cmp3 (R x).key key == 0)):=by
          show _=_;rw [HF.out,hd5,Bool.true_and];unfold cmp3
          by_cases c1:(R x).key<key
          · rw [if_pos c1,show ((R x).key == key)=false by simp;omega];rfl
          · rw [if_neg c1]
            by_cases c2:key<(R x).key
            · rw [if_pos c2,show ((R x).key == key)=false by simp;omega];rfl
            · rw [if_neg c2,show ((R x).key == key)=true by simp;omega];rfl
        clear hb1 x0 x1 HF hd5;generalize cmp3 (R x).key key=cv at *;go_wp2_with fail;go_ret2;exact ⟨x,by rw [HE.out];rfl,HP.out,HB1.out⟩
      · have hd3:decide ((x:Int)<(q:Int))=false:=by simp;omega
        have hd4:¬((x:Int)<(q:Int)):=(by omega)
        have HE:Hid (plF q R key x=false):=by
          show _=_;rw [HF.out,show decide (x<q)=false by simp;omega];rfl
        clear HF HI;go_wp2_with fail;go_ret2;exact ⟨x,by rw [HE.out];rfl,HP.out,HB.out⟩
theorem placeOfRow_any (q:Nat) (R:Nat→Rw) (a:Option Addr) (cap:Nat) (key:Int) (w:World) (hq:q≤1048576) (hs:∀j,j<q→∀i,i<j→(R i).key<(R j).key) (h:RwsAt w a q R) :
    Calls Tryz.prog 171 #[.slice a q cap,.int .i64 key] w fun e w'=>∃i:Nat,e=.returned (.tuple #[.int .i64 i,.bool (plF q R key i)])∧Pl q R key i∧Below w.heap.size w w':=by
  have HA:Hid (RwsAt w a q R):=h;have HS:Hid (∀j,j<q→∀i,i<j→(R i).key<(R j).key):=hs;clear h hs;go_enter Tryz.func171,Tryz.ntmps171;go_wp2_with fail;refine (bsearch_any q R a cap key w hq HS.out HA.out).mono ?_;rintro e w1 ⟨i,rfl,hp,hb1⟩;have HB1:Hid (Below w.heap.size w w1):=hb1;have HP:Hid (Pl q R key i):=hp;clear hb1 hp;go_wp2_with fail;go_ret2;exact ⟨i,rfl,HP.out,HB1.out⟩
theorem pl_fR {q:Nat} {R:Nat→Rw} {key:Int} {i:Nat} (hs:∀j,j<q→∀i,i<j→(R i).key<(R j).key) (hp:Pl q R key i):(plF q R key i=false∧fR q R key=-1)∨(plF q R key i=true∧i<q∧fR q R key=(i:Int)):=by
  obtain ⟨h1,h2,h3⟩:=hp
  rcases fi_cases (fun i=>(R i).key == key) q with ⟨m1,m2⟩ | ⟨j,m1,m2,m3,m4⟩
  · refine .inl ⟨?_,m1⟩;unfold plF
    by_cases h:i<q
    · have:=m2 i h;rw [this,Bool.and_false]
    · rw [show decide (i<q)=false by simp;omega];rfl
  · have e:(R j).key=key:=by simpa using m3
    have hij:i=j:=by
      rcases Nat.lt_trichotomy i j with h | h | h
      · have:=hs j m1 i h;have:=h3 i (Nat.le_refl _) (by omega);omega
      · exact h
      · have:=h2 j h;omega
    subst hij;refine .inr ⟨?_,m1,m2⟩;unfold plF;rw [show decide (i<q)=true by simp;exact m1,m3];rfl
set_option maxHeartbeats 2000000 in
theorem chainOfKey_any (E:En) (a:Option Addr) (cap:Nat) (a':Option Addr) (cap':Nat) (key:Int) (w:World) (hq:E.q≤32) (hs:∀j,j<E.q→∀i,i<j→(E.R i).key<(E.R j).key) (h:EngAt w a a' E) :
    Calls Tryz.prog 101 #[.agg #[.int .i64 E.nx,.int .i64 E.ck,.slice a E.p cap,.slice a' E.q cap'],.int .i64 key] w fun e w'=>
      ∃ai n ci U,e=.returned (.slice ai n ci)∧Below w.heap.size w w'∧VersAt w ai n U∧((fR E.q E.R key=-1∧n=0)∨∃j,j<E.q∧fR E.q E.R key=(j:Int)∧n=(E.R j).n∧U=(E.R j).U):=by
  obtain ⟨nx,ck,p,T,q,R⟩:=E;dsimp only at *;have HRA:Hid (RwsAt w a' q R):=h.2;have HS:Hid (∀j,j<q→∀i,i<j→(R i).key<(R j).key):=hs
  have HBX:Hid (∀o1:Obj,o1=.cells #[.int .i64 nx,.int .i64 ck,.slice a p cap,.slice a' q cap'] 30→Box4 (w.alloc o1) w.heap.size (.int .i64 nx) (.int .i64 ck) (.slice a p cap) (.slice a' q cap')):=by
    rintro o1 rfl;exact Box4.new w _ _ _ _ _
  clear h hs;go_enter Tryz.func101,Tryz.ntmps101;go_wp2_with fail;refine (placeOfRow_any q R a' cap' key _ (by omega) HS.out (HRA.out.below (below_new _ _))).mono ?_;rintro e w1 ⟨i,rfl,hp,hb1⟩;have HB4:=(HBX.out _ rfl).below hb1;have HB1:Hid (Below w.heap.size w w1):=below_then (below_new _ _) hb1;obtain ⟨b0,b1,b2,b3⟩:=HB4;have HF:=pl_fR HS.out hp;clear hb1 hp HBX b0 b1 b2
  rcases HF with ⟨h1,h2⟩ | ⟨h1,h2,h3⟩
  · rw [h1];have HE:Hid (fR q R key=-1):=h2;clear h1 h2;go_wp2_with fail;go_ret;exact ⟨none,0,0,fun _=>zV,rfl,HB1.out,.inl rfl,.inl ⟨HE.out,rfl⟩⟩
  · rw [h1]
    rcases HRA.out with h | ⟨bb,off,rfl,hl,hcc⟩
    · omega
    obtain ⟨ai,ci,⟨x0,x1⟩,hv,-⟩:=hcc i h2;have HV:Hid (VersAt w ai (R i).n (R i).U):=hv;have HE:Hid (i<q∧fR q R key=(i:Int)):=⟨h2,h3⟩;replace x1:=cell_below x1 HB1.out;have hi1:(i:Int)<(q:Int):=(by omega);have hi0:(0:Int)≤(i:Int):=(by omega);clear h1 h3 hcc hv x0;go_wp2_with fail;go_ret;exact ⟨ai,(R i).n,ci,(R i).U,rfl,HB1.out,HV.out,.inr ⟨i,HE.out.1,HE.out.2,rfl,rfl⟩⟩
theorem UndsAt.take {w:World} {a:Option Addr} {n k:Nat} {U:Nat→Ud} (h:UndsAt w a n U) (hk:k≤n):UndsAt w a k U:=by
  rcases h with h | ⟨b,off,ha,hl,hc⟩
  · exact .inl (by omega)
  · exact .inr ⟨b,off,ha,hl,fun i hi=>hc i (by omega)⟩
theorem fob_wrt {n:Nat} {R:Nat→Vr} {x:Int} (hx:x≠0):fob n R x=(wrt n R == x):=by
  unfold fob wrt
  by_cases h:0<n∧(R 0).a=0
  · rw [if_pos h];simp [h.1,h.2]
  · rw [if_neg h];have e:(0 == x)=false:=(by simp;omega);rw [e]
    by_cases h1:0<n
    · have h2:¬(R 0).a=0:=fun h2=>h ⟨h1,h2⟩;simp [h2]
    · simp [h1]
theorem oB_i0 {q:Nat} {R:Nat→Rw} {t:Tx} {j:Nat} (h:fR q R (t.U j).k=-1):oB q R t j=false:=by simp [oB,h]
theorem oB_i1 {q:Nat} {R:Nat→Rw} {t:Tx} {j i:Nat} (h:fR q R (t.U j).k=(i:Int)):oB q R t j=(wrt (R i).n (R i).U == t.id && (t.U j).h == hasU t.U (t.U j).k j):=by
  simp only [oB,h,Int.toNat_natCast];rw [show decide ((0:Int)≤(i:Int))=true by simp];rfl
theorem oB_fob {q:Nat} {R:Nat→Rw} {t:Tx} {j n:Nat} {U:Nat→Vr} (hx:t.id≠0) (h:(fR q R (t.U j).k=-1∧n=0)∨∃i,i<q∧fR q R (t.U j).k=(i:Int)∧n=(R i).n∧U=(R i).U) :
    oB q R t j=(fob n U t.id && (t.U j).h == hasU t.U (t.U j).k j):=by
  rcases h with ⟨h1,rfl⟩ | ⟨i,_,h2,rfl,rfl⟩
  · rw [oB_i0 h1];rfl
  · rw [oB_i1 h2,fob_wrt hx]
set_option maxHeartbeats 8000000 in
theorem undosFit_any (E:En) (a:Option Addr) (cap:Nat) (a':Option Addr) (cap':Nat) (t:Tx) (ti:Option Addr) (tc:Nat) (w:World) (hq:E.q≤32) (hn:t.n≤60) (htc:t.n≤tc) (hid:t.id≠0) (hs:∀j,j<E.q→∀i,i<j→(E.R i).key<(E.R j).key) (h:EngAt w a a' E) (hu:UndsAt w ti t.n t.U) :
    Calls Tryz.prog 144 #[.agg #[.int .i64 E.nx,.int .i64 E.ck,.slice a E.p cap,.slice a' E.q cap'],.agg #[.int .i64 t.id,.int .i64 t.am,.int .i64 t.st,.int .i64 t.dn,.slice ti t.n tc]] w fun e w'=>e=.returned (.bool (owB E.q E.R t))∧Below w.heap.size w w':=by
  have HX:Hid (EngAt w a a' E):=h;have HS:Hid (∀j,j<E.q→∀i,i<j→(E.R i).key<(E.R j).key):=hs;have HU:Hid (UndsAt w ti t.n t.U):=hu;have HQ:Hid (E.q≤32):=hq;have HID:Hid (t.id≠0):=hid;have htc':(t.n:Int)≤(tc:Int):=(by omega);clear h hs hu hid hq;have HW:Hid (∀o1 o2:Obj,Below w.heap.size w ((w.alloc o1).alloc o2)):=fun o1 o2=>(((Below.refl _ _).alloc (Nat.le_refl _) _).alloc (by simp) _)
  have HBX:Hid (∀o1 o2:Obj,o1=.cells #[.int .i64 E.nx,.int .i64 E.ck,.slice a E.p cap,.slice a' E.q cap'] 30→o2=.cells #[.int .i64 t.id,.int .i64 t.am,.int .i64 t.st,.int .i64 t.dn,.slice ti t.n tc] 127→
      Box4 ((w.alloc o1).alloc o2) w.heap.size (.int .i64 E.nx) (.int .i64 E.ck) (.slice a E.p cap) (.slice a' E.q cap')∧((w.alloc o1).alloc o2).cell? ⟨w.heap.size+1,0,none⟩=some (.int .i64 t.id)∧((w.alloc o1).alloc o2).cell? ⟨w.heap.size+1,4,none⟩=some (.slice ti t.n tc)):=by
    rintro o1 o2 rfl rfl;exact ⟨(Box4.new w _ _ _ _ _).alloc _,by simp [go_sem],by simp [go_sem]⟩
  go_enter Tryz.func144,Tryz.ntmps144;go_wp2_with fail;obtain ⟨HB4,ht0,ht4⟩:=HBX.out _ _ rfl rfl;have HWW:=HW.out (.cells #[.int .i64 E.nx,.int .i64 E.ck,.slice a E.p cap,.slice a' E.q cap'] 30) (.cells #[.int .i64 t.id,.int .i64 t.am,.int .i64 t.st,.int .i64 t.dn,.slice ti t.n tc] 127);generalize (w.alloc (.cells #[.int .i64 E.nx,.int .i64 E.ck,.slice a E.p cap,.slice a' E.q cap'] 30)).alloc (.cells #[.int .i64 t.id,.int .i64 t.am,.int .i64 t.st,.int .i64 t.dn,.slice ti t.n tc] 127)=W at *;have HB4H:Hid (Box4 W w.heap.size (.int .i64 E.nx) (.int .i64 E.ck) (.slice a E.p cap) (.slice a' E.q cap')):=HB4;have HTH:Hid (W.cell? ⟨w.heap.size+1,0,none⟩=some (.int .i64 t.id)∧W.cell? ⟨w.heap.size+1,4,none⟩=some (.slice ti t.n tc)):=⟨ht0,ht4⟩;have HWH:Hid (Below w.heap.size w W):=HWW;have hsz:Hid (w.heap.size≤W.heap.size):=HWW.size;clear HBX HW HB4 ht0 ht4 HWW;generalize hEB:w.heap.size=EB at *;generalize hTB:EB+1=TB at *;go_loopw [5,6,10] (fun _ _ i wr=>∃k:Nat,k≤t.n∧i=.int .i64 k∧Hid (allb (oB E.q E.R t) k=true)∧Hid (Below W.heap.size W wr)) (fun _ _ i _=>t.n-(intOf i).toNat)
  case atStart=>exact ⟨0,Nat.zero_le _,rfl,rfl,Below.refl _ _⟩
  case round=>
    obtain ⟨k,hk,rfl,HC,HB⟩:=hrel;have HBE:Hid (Below EB w wr):=HWH.out.trans (HB.out.mono hsz.out);have hszr:Hid (EB≤wr.heap.size):=Nat.le_trans hsz.out HB.out.size
    by_cases hlt:k<t.n
    · have hlt':(k:Int)<(t.n:Int):=by omega
      have hk0:(0:Int)≤(k:Int):=(by omega);have hk2:(k:Int)≤(tc:Int):=(by omega)
      have HUR:Hid (UndsAt wr ti t.n t.U):=by
        have h:=HU.out;rw [←hEB] at HBE;exact h.below HBE.out
      rcases HUR.out with h | ⟨ub,uo,rfl,hul,huc⟩
      · omega
      obtain ⟨u0,u1,u2,u3⟩:=huc k hlt;clear huc;go_wp2_with fail;have hbx:CU (wr.alloc (.cells #[.int .i64 (t.U k).k,.bool (t.U k).h,.bool (t.U k).g,.int .i64 (t.U k).v] 176)) wr.heap.size 0 (t.U k):=⟨by simp [go_sem],by simp [go_sem],by simp [go_sem],by simp [go_sem]⟩;have HBN:Hid (Below wr.heap.size wr (wr.alloc (.cells #[.int .i64 (t.U k).k,.bool (t.U k).h,.bool (t.U k).g,.int .i64 (t.U k).v] 176))):=below_new _ _;generalize wr.alloc (.cells #[.int .i64 (t.U k).k,.bool (t.U k).h,.bool (t.U k).g,.int .i64 (t.U k).v] 176)=wx at *;have hszx:Hid (EB≤wx.heap.size):=Nat.le_trans hszr.out HBN.out.size;have HBX:Hid (Below W.heap.size W wx):=below_then HB.out HBN.out;have HBEX:Hid (Below EB w wx):=HWH.out.trans (HBX.out.mono hsz.out)
      have HEX:Hid (EngAt wx a a' E):=by
        have h:=HX.out;rw [←hEB] at HBEX;exact h.below HBEX.out
      have HUX:Hid (UndsAt wx (some ⟨ub,uo,none⟩) t.n t.U):=HUR.out.below HBN.out;obtain ⟨q0,q1,-,-⟩:=hbx;rw [Nat.zero_add] at q1;obtain ⟨b0,b1,b2,b3⟩:=HB4H.out.below HBX.out;obtain ⟨t0,t4⟩:=HTH.out;replace t0:=cell_below t0 HBX.out;replace t4:=cell_below t4 HBX.out;clear u0 u1 u2 u3 hul HUR;generalize wr.heap.size=UB at *;have hb0:Below wx.heap.size wx wx.drew:=(Below.refl _ _).drew;go_upto_region 4 with fail;go_cut [22] (fun cc wy=>(∃vn vU,cc=.bool (!fob vn vU t.id)∧Hid ((fR E.q E.R (t.U k).k=-1∧vn=0)∨∃i,i<E.q∧fR E.q E.R (t.U k).k=(i:Int)∧vn=(E.R i).n∧vU=(E.R i).U))∧Hid (Below wx.heap.size wx wy))
      case first=>
        go_region_held3 (fun w'=>Below wx.heap.size wx w'∧w'.cell? ⟨EB,0,none⟩=some (.int .i64 E.nx)∧w'.cell? ⟨EB,1,none⟩=some (.int .i64 E.ck)∧w'.cell? ⟨EB,2,none⟩=some (.slice a E.p cap)∧w'.cell? ⟨EB,3,none⟩=some (.slice a' E.q cap')∧w'.cell? ⟨UB,0,none⟩=some (.int .i64 (t.U k).k)∧w'.cell? ⟨TB,0,none⟩=some (.int .i64 t.id)) (go_keep)
          (first | (go_at_call 101;refine (chainOfKey_any E a cap a' cap' (t.U k).k _ HQ.out HS.out (HEX.out.below (by simp [*]))).mono ?_;rintro e wq ⟨va,vn,vc,vU,rfl,hbq,hvq,hcq⟩;have HVQ:Hid (VersAt wq va vn vU):=hvq.below hbq;have HCQ:Hid ((fR E.q E.R (t.U k).k=-1∧vn=0)∨∃i,i<E.q∧fR E.q E.R (t.U k).k=(i:Int)∧vn=(E.R i).n∧vU=(E.R i).U):=hcq;clear hvq hcq;have hU:=below_then (w:=wx) (by simp [*]) hbq;have hU0:=cell_below (B:=EB) (o:=0) (v:=.int .i64 E.nx) (by simp [*]) hbq;have hU1:=cell_below (B:=EB) (o:=1) (v:=.int .i64 E.ck) (by simp [*]) hbq;have hU2:=cell_below (B:=EB) (o:=2) (v:=.slice a E.p cap) (by simp [*]) hbq;have hU3:=cell_below (B:=EB) (o:=3) (v:=.slice a' E.q cap') (by simp [*]) hbq;have hU4:=cell_below (B:=UB) (o:=0) (v:=.int .i64 (t.U k).k) (by simp [*]) hbq;have hU5:=cell_below (B:=TB) (o:=0) (v:=.int .i64 t.id) (by simp [*]) hbq) | (go_at_call 167;refine (firstIsOpenBy_any vn vU va vc t.id _ HVQ.out).mono ?_;rintro e wz ⟨rfl,hbz⟩;have hZ:=below_then (w:=wx) (by simp [*]) hbz;have hZ0:=cell_below (B:=EB) (o:=0) (v:=.int .i64 E.nx) (by simp [*]) hbz;have hZ1:=cell_below (B:=EB) (o:=1) (v:=.int .i64 E.ck) (by simp [*]) hbz;have hZ2:=cell_below (B:=EB) (o:=2) (v:=.slice a E.p cap) (by simp [*]) hbz;have hZ3:=cell_below (B:=EB) (o:=3) (v:=.slice a' E.q cap') (by simp [*]) hbz;have hZ4:=cell_below (B:=UB) (o:=0) (v:=.int .i64 (t.U k).k) (by simp [*]) hbz;have hZ5:=cell_below (B:=TB) (o:=0) (v:=.int .i64 t.id) (by simp [*]) hbz))
        go_wp2_with fail;go_meet;exact ⟨⟨vn,vU,rfl,HCQ⟩,by assumption⟩
      case rest=>
        obtain ⟨⟨vn,vU,rfl,HCQ⟩,HBY⟩:=hcut;obtain ⟨w4,rfl⟩:∃x,x=wc:=⟨wc,rfl⟩;have HO:Hid (oB E.q E.R t k=(fob vn vU t.id && (t.U k).h == hasU t.U (t.U k).k k)):=oB_fob HID.out HCQ.out;have HBXC:Hid (Below W.heap.size W w4):=below_then HBX.out HBY.out;have HBEC:Hid (Below EB w w4):=HWH.out.trans (HBXC.out.mono hsz.out);replace q0:=cell_below q0 HBY.out;replace q1:=cell_below q1 HBY.out;replace t4:=cell_below t4 HBY.out;have HUC:Hid (UndsAt w4 (some ⟨ub,uo,none⟩) k t.U):=(HUX.out.below HBY.out).take (by omega);have hszc:Hid (EB≤w4.heap.size):=Nat.le_trans hszx.out HBY.out.size;clear b0 b1 b2 b3 t0 HCQ HBY HBX HBEX HEX HUX HBN hb0
        obtain hf | hf:=bool_or2 (fob vn vU t.id)
        case inr=>
          have HE:Hid (owB E.q E.R t=false):=allb_not hlt (by rw [HO.out,hf];rfl);rw [hf];clear HO HC hf;go_wp2_with fail;go_ret
          first | exact ⟨ret_bool HE.out.symm,HBEC.out⟩ | exact ⟨ret_bool HE.out.symm,by rw [hEB];exact HBEC.out⟩
        have HO2:Hid (oB E.q E.R t k=((t.U k).h == hasU t.U (t.U k).k k)):=(by show _=_;rw [HO.out,hf];rfl);rw [hf];clear HO hf;have hb1:Below w4.heap.size w4 w4.drew:=(Below.refl _ _).drew;go_upto_region 6 with fail;go_cut [32] (fun cc wy=>cc=.bool (!((t.U k).h == hasU t.U (t.U k).k k))∧Hid (Below w4.heap.size w4 wy))
        case first=>
          go_region_held3 (fun w'=>Below w4.heap.size w4 w'∧w'.cell? ⟨UB,0,none⟩=some (.int .i64 (t.U k).k)∧w'.cell? ⟨UB,1,none⟩=some (.bool (t.U k).h)∧w'.cell? ⟨TB,4,none⟩=some (.slice (some ⟨ub,uo,none⟩) t.n tc)) (go_keep)
            (first | (go_at_call 197;refine (hasUndo_any k t.U (some ⟨ub,uo,none⟩) tc (t.U k).k _ (by omega) (HUC.out.below (by simp [*]))).mono ?_;rintro e wq ⟨rfl,hbq⟩;have hU:=below_then (w:=w4) (by simp [*]) hbq;have hU0:=cell_below (B:=UB) (o:=0) (v:=.int .i64 (t.U k).k) (by simp [*]) hbq;have hU1:=cell_below (B:=UB) (o:=1) (v:=.bool (t.U k).h) (by simp [*]) hbq;have hU2:=cell_below (B:=TB) (o:=4) (v:=.slice (some ⟨ub,uo,none⟩) t.n tc) (by simp [*]) hbq))
          go_wp2_with fail;go_meet;exact ⟨by first | rfl | simp,by assumption⟩
        case rest=>
          obtain ⟨rfl,HBZ⟩:=hcut;have HBXD:Hid (Below W.heap.size W wc):=below_then HBXC.out HBZ.out;have HBED:Hid (Below EB w wc):=HWH.out.trans (HBXD.out.mono hsz.out);clear q0 q1 t4 HUC hb1
          obtain hh | hh:=bool_or2 ((t.U k).h == hasU t.U (t.U k).k k)
          · have HE:Hid (allb (oB E.q E.R t) (k+1)=true):=by
              show _=_;simp only [allb];rw [HC.out,HO2.out,hh];rfl
            rw [hh];clear HO2 HC hh;go_wp2_with fail;go_roundw
            case rel=>exact ⟨k+1,hlt,by go_num,HE,HBXD⟩
            case measure=>simp [intOf];omega
          · have HE:Hid (owB E.q E.R t=false):=allb_not hlt (by rw [HO2.out,hh]);rw [hh];clear HO2 HC hh;go_wp2_with fail;go_ret
            first | exact ⟨ret_bool HE.out.symm,HBED.out⟩ | exact ⟨ret_bool HE.out.symm,by rw [hEB];exact HBED.out⟩
    · have hkn:k=t.n:=by omega
      have HE:Hid (owB E.q E.R t=true):=(by rw [hkn] at HC;exact HC);have hnl:¬((k:Int)<(t.n:Int)):=(by omega);clear HC;go_wp2_with fail;go_ret
      first | exact ⟨ret_bool HE.out.symm,HBE.out⟩ | exact ⟨ret_bool HE.out.symm,by rw [hEB];exact HBE.out⟩
theorem rF_good {ck:Int} {p:Nat} {T:Nat→Tx} {R:Nat→Rw} {i:Nat} (h:rF ck p T R i=0):inB (R i).key 0 31=true∧rB1 R i=false∧chF (R i).n (R i).U=0∧(rB2 ck (R i) || !opB p T (R i))=false:=by
  unfold rF at h;split at h
  · omega
  · rename_i h1;split at h
    · omega
    · rename_i h2;split at h
      · rename_i h3;split at h
        · omega
        · rename_i h4;exact ⟨by simpa using h1,by simpa using h2,h3,by simpa using h4⟩
      · rename_i h3;exact absurd h h3
theorem keys_rise {ck:Int} {p q:Nat} {T:Nat→Tx} {R:Nat→Rw} (h:∀i,i<q→rF ck p T R i=0):∀j,j<q→∀i,i<j→(R i).key<(R j).key
  | 0,_,i,hi=>by omega
  | j+1,hj,i,hi=>by
    have h1:=(rF_good (h (j+1) hj)).2.1
    have h2:(R j).key<(R (j+1)).key:=by
      unfold rB1 at h1;simp at h1;omega
    by_cases e:i=j
    · subst e;exact h2
    · have:=keys_rise h j (by omega) i (by omega);omega
theorem eF_3j {E:En} (h:inB E.nx 1 999=false∨inB E.ck 0 1000000=false):eF E=3:=if_pos h
theorem eF_2j {E:En} (h1:inB E.nx 1 999=true) (h2:inB E.ck 0 1000000=true) (h:20<E.p∨32<E.q):eF E=2:=by
  unfold eF;rw [if_neg (by simp [h1,h2]),if_pos h]
theorem eF_tj {E:En} (h1:inB E.nx 1 999=true) (h2:inB E.ck 0 1000000=true) (h3:E.p≤20) (h4:E.q≤32) (h:ffz (tF E.nx E.ck E.T) E.p 0≠0):eF E=ffz (tF E.nx E.ck E.T) E.p 0:=by
  unfold eF;rw [if_neg (by simp [h1,h2]),if_neg (by omega),if_neg h]
theorem eF_rj {E:En} (h1:inB E.nx 1 999=true) (h2:inB E.ck 0 1000000=true) (h3:E.p≤20) (h4:E.q≤32) (h5:ffz (tF E.nx E.ck E.T) E.p 0=0) (h:ffz (rF E.ck E.p E.T E.R) E.q 0≠0):eF E=ffz (rF E.ck E.p E.T E.R) E.q 0:=by
  unfold eF;rw [if_neg (by simp [h1,h2]),if_neg (by omega),if_pos h5,if_neg h]
theorem eF_oj {E:En} (h1:inB E.nx 1 999=true) (h2:inB E.ck 0 1000000=true) (h3:E.p≤20) (h4:E.q≤32) (h5:ffz (tF E.nx E.ck E.T) E.p 0=0) (h6:ffz (rF E.ck E.p E.T E.R) E.q 0=0):eF E=if allb (fun i=>owB E.q E.R (E.T i)) E.p=true then 0 else 1:=by
  unfold eF;rw [if_neg (by simp [h1,h2]),if_neg (by omega),if_pos h5,if_pos h6]
set_option maxHeartbeats 16000000 in
theorem implEf_any (E:En) (a:Option Addr) (cap:Nat) (a':Option Addr) (cap':Nat) (w:World) (hs:SmallE E) (h:EngAt w a a' E) :
    Calls Tryz.prog 78 #[.agg #[.int .i64 E.nx,.int .i64 E.ck,.slice a E.p cap,.slice a' E.q cap']] w fun e w'=>e=.returned (.int .i64 (eF E))∧Below w.heap.size w w':=by
  have HX:Hid (EngAt w a a' E):=h;have HS:Hid (SmallE E):=hs;have hp0:=hs.p;have hq0:=hs.q;clear h hs
  obtain h1 | h1:=bool_or2 (inB E.nx 1 999)
  case inr=>
    have HE:Hid (eF E=3):=eF_3j (.inl h1);clear HX HS;go_enter Tryz.func78,Tryz.ntmps78;go_wp2_with (first | (go_at_call 140;refine (isTxn_any _ _).mono ?_;rintro e w' ⟨rfl,rfl⟩) | (go_at_call 141;refine (isAt_any _ _).mono ?_;rintro e w' ⟨rfl,rfl⟩));go_ret;exact ⟨ret_int HE.out.symm,below_new _ _⟩
  obtain h2 | h2:=bool_or2 (inB E.ck 0 1000000)
  case inr=>
    have HE:Hid (eF E=3):=eF_3j (.inr h2);clear HX HS;go_enter Tryz.func78,Tryz.ntmps78;go_wp2_with (first | (go_at_call 140;refine (isTxn_any _ _).mono ?_;rintro e w' ⟨rfl,rfl⟩) | (go_at_call 141;refine (isAt_any _ _).mono ?_;rintro e w' ⟨rfl,rfl⟩));go_ret;exact ⟨ret_int HE.out.symm,below_new _ _⟩
  by_cases h3:20<E.p
  · have HE:Hid (eF E=2):=eF_2j h1 h2 (.inl h3);have h3':(20:Int)<(E.p:Int):=(by omega);clear HX HS;go_enter Tryz.func78,Tryz.ntmps78;go_wp2_with (first | (go_at_call 140;refine (isTxn_any _ _).mono ?_;rintro e w' ⟨rfl,rfl⟩) | (go_at_call 141;refine (isAt_any _ _).mono ?_;rintro e w' ⟨rfl,rfl⟩));go_ret;exact ⟨ret_int HE.out.symm,below_new _ _⟩
  have h3':¬((20:Int)<(E.p:Int)):=(by omega)
  by_cases h4:32<E.q
  · have HE:Hid (eF E=2):=eF_2j h1 h2 (.inr h4);have h4':(32:Int)<(E.q:Int):=(by omega);clear HX HS;go_enter Tryz.func78,Tryz.ntmps78;go_wp2_with (first | (go_at_call 140;refine (isTxn_any _ _).mono ?_;rintro e w' ⟨rfl,rfl⟩) | (go_at_call 141;refine (isAt_any _ _).mono ?_;rintro e w' ⟨rfl,rfl⟩));go_ret;exact ⟨ret_int HE.out.symm,below_new _ _⟩
  have h4':¬((32:Int)<(E.q:Int)):=(by omega);have h5:E.p≤20:=(by omega);have h6:E.q≤32:=(by omega);have HN:Hid (1≤E.nx∧E.nx≤999):=inB_iff.1 h1;have HTH:Hid (ffz (tF E.nx E.ck E.T) E.p 0≠0→eF E=ffz (tF E.nx E.ck E.T) E.p 0):=fun h=>eF_tj h1 h2 h5 h6 h;have HRH:Hid (ffz (tF E.nx E.ck E.T) E.p 0=0→ffz (rF E.ck E.p E.T E.R) E.q 0≠0→eF E=ffz (rF E.ck E.p E.T E.R) E.q 0):=fun a h=>eF_rj h1 h2 h5 h6 a h;have HOH:Hid (ffz (tF E.nx E.ck E.T) E.p 0=0→ffz (rF E.ck E.p E.T E.R) E.q 0=0→eF E=if allb (fun i=>owB E.q E.R (E.T i)) E.p=true then 0 else 1):=fun a b=>eF_oj h1 h2 h5 h6 a b
  have HBX:Hid (∀o1:Obj,o1=.cells #[.int .i64 E.nx,.int .i64 E.ck,.slice a E.p cap,.slice a' E.q cap'] 30→Box4 (w.alloc o1) w.heap.size (.int .i64 E.nx) (.int .i64 E.ck) (.slice a E.p cap) (.slice a' E.q cap')∧Below w.heap.size w (w.alloc o1)):=by
    rintro o1 rfl;exact ⟨Box4.new w _ _ _ _ _,below_new _ _⟩
  go_enter Tryz.func78,Tryz.ntmps78;go_upto_region 5 with (first | (go_at_call 140;refine (isTxn_any _ _).mono ?_;rintro e w' ⟨rfl,hw'⟩;rw [hw'];clear hw') | (go_at_call 141;refine (isAt_any _ _).mono ?_;rintro e w' ⟨rfl,hw'⟩;rw [hw'];clear hw'));obtain ⟨hb4,hbw⟩:=HBX.out _ rfl;generalize w.alloc (.cells #[.int .i64 E.nx,.int .i64 E.ck,.slice a E.p cap,.slice a' E.q cap'] 30)=W at *;have HB4:Hid (Box4 W w.heap.size (.int .i64 E.nx) (.int .i64 E.ck) (.slice a E.p cap) (.slice a' E.q cap')):=hb4;have HBW:Hid (Below w.heap.size w W):=hbw;clear hb4 hbw HBX h1 h2 h3 h4 h3' h4';generalize hEB:w.heap.size=EB at *
  have HEX:Hid (∀wr,Below W.heap.size W wr→EngAt wr a a' E∧Below EB w wr):=by
    intro wr hb;have hsz:EB≤W.heap.size:=(by have:=HBW.out.size;omega);have h:=HBW.out.trans (hb.mono hsz);refine ⟨?_,h⟩;rw [←hEB] at h;exact HX.out.below h
  clear HX HBW;obtain ⟨b0,b1,b2,b3⟩:=HB4.out;go_wp2_with fail;clear b0 b1 b2 b3;generalize hC1:ffz (tF E.nx E.ck E.T) E.p 0=C1 at *;go_loopw [3,4,32] (fun _ _ i wr=>∃k:Nat,k≤E.p∧i=.int .i64 k∧Hid (C1=ffz (tF E.nx E.ck E.T) (E.p-k) k)∧Hid (Below W.heap.size W wr)) (fun _ _ i _=>E.p-(intOf i).toNat)
  case atStart=>exact ⟨0,Nat.zero_le _,rfl,hC1.symm,Below.refl _ _⟩
  case round=>
    obtain ⟨k,hk,rfl,HC,HB⟩:=hrel;obtain ⟨b0,b1,b2,b3⟩:=HB4.out.below HB.out;have HEW:Hid (EngAt wr a a' E∧Below EB w wr):=HEX.out wr HB.out
    by_cases hlt:k<E.p
    · have hlt':(k:Int)<(E.p:Int):=by omega
      have hk0:(0:Int)≤(k:Int):=(by omega);have HE0:Hid (C1=_):=HC.out.trans (ffz_at _ hlt);clear HC hC1;go_wp2_with fail;refine (txnFault_any E a cap a' cap' k wr h5 hlt HS.out.t HN.out HEW.out.1).mono ?_;rintro e w1 ⟨rfl,hb1⟩;have HB1:Hid (Below W.heap.size W w1):=below_then HB.out hb1;have HBE:Hid (Below EB w w1):=(HEX.out w1 HB1.out).2;clear hb1 b0 b1 b2 b3
      by_cases hu:tF E.nx E.ck E.T k=0
      · have HE:Hid (C1=ffz (tF E.nx E.ck E.T) (E.p-(k+1)) (k+1)):=by
          have h:=HE0.out;rw [if_pos hu] at h;exact h
        rw [hu];clear HE0 hu;go_wp2_with fail;go_roundw
        case rel=>exact ⟨k+1,hlt,by go_num,HE,HB1⟩
        case measure=>simp [intOf];omega
      · have HE:Hid (C1=tF E.nx E.ck E.T k):=by
          have h:=HE0.out;rw [if_neg hu] at h;exact h
        have HE2:Hid (eF E=tF E.nx E.ck E.T k):=by
          have:=HTH.out (by rw [HE.out];exact hu);exact this.trans HE.out
        have hu2:(tF E.nx E.ck E.T k != 0)=true:=(by simp [hu]);clear HE0 hu HTH HRH HOH HE;generalize tF E.nx E.ck E.T k=uu at *;go_wp2_with fail;go_ret
        first | exact ⟨ret_int HE2.out.symm,HBE.out⟩ | exact ⟨ret_int HE2.out.symm,by rw [hEB];exact HBE.out⟩
    · have HE:C1=0:=by
        have h:=HC.out;rw [show E.p-k=0 by omega] at h;exact h
      have hnl:¬((k:Int)<(E.p:Int)):=(by omega);have HT0:Hid (∀i,i<E.p→tF E.nx E.ck E.T i=0):=fun i hi=>ffz_zero (hC1.trans HE) i hi;have HR2:Hid (ffz (rF E.ck E.p E.T E.R) E.q 0≠0→eF E=ffz (rF E.ck E.p E.T E.R) E.q 0):=fun h=>HRH.out HE h;have HO2:Hid (ffz (rF E.ck E.p E.T E.R) E.q 0=0→eF E=if allb (fun i=>owB E.q E.R (E.T i)) E.p=true then 0 else 1):=fun h=>HOH.out HE h;clear HC hC1 HE HTH HRH HOH;go_wp2_with fail;clear b0 b1 b2 b3 hnl hk;generalize hC2:ffz (rF E.ck E.p E.T E.R) E.q 0=C2 at *;go_loopw [5,6,45] (fun _ _ i wy=>∃k:Nat,k≤E.q∧i=.int .i64 k∧Hid (C2=ffz (rF E.ck E.p E.T E.R) (E.q-k) k)∧Hid (Below W.heap.size W wy)) (fun _ _ i _=>E.q-(intOf i).toNat)
      case atStart=>exact ⟨0,Nat.zero_le _,rfl,hC2.symm,HB⟩
      case round=>
        obtain ⟨k2,hk2,rfl,HC,HBY⟩:=hrel;obtain ⟨wy,rfl⟩:∃x,x=wr:=⟨wr,rfl⟩;obtain ⟨b0,b1,b2,b3⟩:=HB4.out.below HBY.out;have HEY:Hid (EngAt wy a a' E∧Below EB w wy):=HEX.out wy HBY.out
        by_cases hlt:k2<E.q
        · have hlt':(k2:Int)<(E.q:Int):=by omega
          have hk0:(0:Int)≤(k2:Int):=(by omega);have HE0:Hid (C2=_):=HC.out.trans (ffz_at _ hlt);clear HC hC2;go_wp2_with fail;refine (rowFault_any E a cap a' cap' k2 wy h5 h6 hlt HS.out.t HS.out.r HT0.out HEY.out.1).mono ?_;rintro e w1 ⟨rfl,hb1⟩;have HB1:Hid (Below W.heap.size W w1):=below_then HBY.out hb1;have HBE:Hid (Below EB w w1):=(HEX.out w1 HB1.out).2;clear hb1 b0 b1 b2 b3
          by_cases hu:rF E.ck E.p E.T E.R k2=0
          · have HE:Hid (C2=ffz (rF E.ck E.p E.T E.R) (E.q-(k2+1)) (k2+1)):=by
              have h:=HE0.out;rw [if_pos hu] at h;exact h
            rw [hu];clear HE0 hu;go_wp2_with fail;go_roundw
            case rel=>exact ⟨k2+1,hlt,by go_num,HE,HB1⟩
            case measure=>simp [intOf];omega
          · have HE:Hid (C2=rF E.ck E.p E.T E.R k2):=by
              have h:=HE0.out;rw [if_neg hu] at h;exact h
            have HE2:Hid (eF E=rF E.ck E.p E.T E.R k2):=by
              have:=HR2.out (by rw [HE.out];exact hu);exact this.trans HE.out
            have hu2:(rF E.ck E.p E.T E.R k2 != 0)=true:=(by simp [hu]);clear HE0 hu HR2 HO2 HE;generalize rF E.ck E.p E.T E.R k2=uu at *;go_wp2_with fail;go_ret
            first | exact ⟨ret_int HE2.out.symm,HBE.out⟩ | exact ⟨ret_int HE2.out.symm,by rw [hEB];exact HBE.out⟩
        · have HE:C2=0:=by
            have h:=HC.out;rw [show E.q-k2=0 by omega] at h;exact h
          have hnl:¬((k2:Int)<(E.q:Int)):=(by omega);have HSO:Hid (∀j,j<E.q→∀i,i<j→(E.R i).key<(E.R j).key):=keys_rise (fun i hi=>ffz_zero (hC2.trans HE) i hi);have HO3:Hid (eF E=if allb (fun i=>owB E.q E.R (E.T i)) E.p=true then 0 else 1):=HO2.out HE;clear HC hC2 HE HR2 HO2;go_wp2_with fail;clear b0 b1 b2 b3 hnl hk2;go_loopw [8,58] (fun _ i wz=>∃k:Nat,k≤E.p∧i=.int .i64 k∧Hid (allb (fun i=>owB E.q E.R (E.T i)) k=true)∧Hid (Below W.heap.size W wz)) (fun _ i _=>E.p-(intOf i).toNat)
          case atStart=>exact ⟨0,Nat.zero_le _,rfl,rfl,HBY⟩
          case round=>
            obtain ⟨k3,hk3,rfl,HC,HBZ⟩:=hrel;obtain ⟨wz,rfl⟩:∃x,x=wr:=⟨wr,rfl⟩;obtain ⟨b0,b1,b2,b3⟩:=HB4.out.below HBZ.out;have HEZ:Hid (EngAt wz a a' E∧Below EB w wz):=HEX.out wz HBZ.out
            by_cases hlt:k3<E.p
            · have hlt':(k3:Int)<(E.p:Int):=by omega
              have hk0:(0:Int)≤(k3:Int):=(by omega)
              rcases HEZ.out.1.1 with h | ⟨bb,off,rfl,hl,hcc⟩
              · omega
              obtain ⟨ti,tc,⟨x0,x1,x2,x3,x4⟩,hun,hcap⟩:=hcc k3 hlt;have HUN:Hid (UndsAt wz ti (E.T k3).n (E.T k3).U):=hun;have HTG:=tF_good (HT0.out k3 hlt);have HU60:Hid ((E.T k3).n≤60):=usF_le HTG.2.2.2.2;have HIDP:Hid ((E.T k3).id≠0):=(by have:=id_pos (HT0.out k3 hlt);show (E.T k3).id≠0;omega);have HCAP:Hid ((E.T k3).n≤tc):=hcap;have d0:=fun o:Obj=>cell_alloc b0 o;have d1:=fun o:Obj=>cell_alloc b1 o;have d2:=fun o:Obj=>cell_alloc b2 o;have d3:=fun o:Obj=>cell_alloc b3 o;have HBA:Hid (∀o:Obj,Below W.heap.size W (wz.alloc o)):=fun o=>below_then HBZ.out (below_new _ _);clear hcc hun HTG hcap;go_wp2_with fail;refine (undosFit_any E _ cap a' cap' (E.T k3) ti tc _ h6 HU60.out HCAP.out HIDP.out HSO.out (HEX.out _ (HBA.out _)).1 (HUN.out.below (below_new _ _))).mono ?_;rintro e w1 ⟨rfl,hb1⟩;have HB1:Hid (Below W.heap.size W w1):=below_then (HBA.out _) hb1;have HBE:Hid (Below EB w w1):=(HEX.out w1 HB1.out).2;clear hb1 b0 b1 b2 b3 d0 d1 d2 d3 x0 x1 x2 x3 x4
              obtain ho | ho:=bool_or2 (owB E.q E.R (E.T k3))
              · have HE:Hid (allb (fun i=>owB E.q E.R (E.T i)) (k3+1)=true):=by
                  show _=_;simp only [allb];rw [HC.out,ho];rfl
                rw [ho];clear HC ho;go_wp2_with fail;go_roundw
                case rel=>exact ⟨k3+1,hlt,by go_num,HE,HB1⟩
                case measure=>simp [intOf];omega
              · have HE:Hid (eF E=1):=HO3.out.trans (if_neg (by rw [allb_not hlt ho];decide));rw [ho];clear HC ho HO3;go_wp2_with fail;go_ret
                first | exact ⟨ret_int HE.out.symm,HBE.out⟩ | exact ⟨ret_int HE.out.symm,by rw [hEB];exact HBE.out⟩
            · have hkn:k3=E.p:=by omega
              have HE:Hid (eF E=0):=HO3.out.trans (if_pos (by rw [hkn] at HC;exact HC.out));have hnl:¬((k3:Int)<(E.p:Int)):=(by omega);have HBE:Hid (Below EB w wz):=HEZ.out.2;clear HC HO3;go_wp2_with fail;go_ret
              first | exact ⟨ret_int HE.out.symm,HBE.out⟩ | exact ⟨ret_int HE.out.symm,by rw [hEB];exact HBE.out⟩
end Go.Proofs.YtjdodbiphijjgaaGreat
