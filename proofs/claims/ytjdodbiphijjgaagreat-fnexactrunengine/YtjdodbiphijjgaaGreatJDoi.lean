import Derived.Test.YtjdodbiphijjgaaGreatJDoh
import Derived.Test.YtjdodbiphijjgaaGreatJRua
namespace Go.Proofs.YtjdodbiphijjgaaGreat
open Go.RowKit Go.Deep Go.Shelf
set_option linter.unusedVariables false
set_option linter.unusedSimpArgs false
set_option maxRecDepth 20000
open Go.RowKit Go.Deep
open Go.ChangeShapes Go.WideShapes Go.ChangeAt Go.RowKit Go.Deep
theorem doOne (f:FuncId) (G E:En) (r:Dk) (a:Option Addr) (cap:Nat) (a':Option Addr) (cap':Nat) (w:World) (hs:SmallE E) (h:EngAt w a a' E) (h0:eF E=0) (hk:inB r.k 1 7=true)
    (HA:∀w,Calls Tryz.prog 80 #[.int .i64 r.k] w fun e w'=>e=.returned (.func (.func f) #[] #[])∧w'=w.alloc actsO) (hG:dnG E r=G) (hcf:∀(args:Array Value) (u:World),Sem.run Tryz.prog (callFunc f args) u=.ok (.enter f args) u)
    (HB:∀a cap a' cap' w,EngAt w a a' E→Calls Tryz.prog f #[.agg #[.int .i64 E.nx,.int .i64 E.ck,.slice a E.p cap,.slice a' E.q cap'],.agg #[.int .i64 r.k,.int .i64 r.t,.int .i64 r.y,.int .i64 r.o]] w (DnX E a a' (dnC E r) (dnW E r) (dnL E r) G w)) :
    Calls Tryz.prog 22 #[.agg #[.int .i64 E.nx,.int .i64 E.ck,.slice a E.p cap,.slice a' E.q cap'],.agg #[.int .i64 r.k,.int .i64 r.t,.int .i64 r.y,.int .i64 r.o]] w (DoR 0 (dnC E r) (dnW E r) (dnL E r) (dnE E r) w):=
  doAct f (dnC E r) (dnW E r) (dnL E r) G E r a cap a' cap' w hs h h0 (dnE E r) (by unfold dnE;rw [hG]) (eF_dn h0 r) hk hcf HA HB
theorem dn1 {E:En} {r:Dk} (hk:r.k=1):dnC E r=btC E∧dnW E r=btV E∧dnL E r=[]∧dnG E r=btE E:=by
  refine ⟨by simp [dnC,hk],?_,by simp [dnL,hk],by simp [dnG,hk]⟩;have e:dnC E r=btC E:=(by simp [dnC,hk]);unfold dnW;rw [if_neg (by omega),e];split
  · simp [dnV,hk]
  · rename_i h;unfold btV;rw [if_neg h]
theorem dn2 {E:En} {r:Dk} (hk:r.k=2):dnC E r=rkC E r.t r.y∧dnW E r=rkV E r.t r.y∧dnL E r=[]∧dnG E r=E:=by
  refine ⟨by simp [dnC,hk],by simp [dnW,hk],by simp [dnL,hk],by simp [dnG,hk]⟩
theorem dn3 {E:En} {r:Dk} (hk:r.k=3):dnC E r=askC E r.t∧dnW E r=0∧dnL E r=(if askC E r.t=0 then skQ E r.t 0 31 else [])∧dnG E r=E:=by
  refine ⟨by simp [dnC,hk],by simp [dnW,dnV,hk],by simp [dnL,hk],by simp [dnG,hk]⟩
theorem dn4 {E:En} {r:Dk} (hk:r.k=4):dnC E r=wcC E r.t r.y r.o false∧dnW E r=0∧dnL E r=[]∧dnG E r=wcE E r.t r.y r.o false:=by
  refine ⟨by simp [dnC,hk],by simp [dnW,dnV,hk],by simp [dnL,hk],by simp [dnG,hk]⟩
theorem dn5 {E:En} {r:Dk} (hk:r.k=5):dnC E r=wcC E r.t r.y 0 true∧dnW E r=0∧dnL E r=[]∧dnG E r=wcE E r.t r.y 0 true:=by
  refine ⟨by simp [dnC,hk],by simp [dnW,dnV,hk],by simp [dnL,hk],by simp [dnG,hk]⟩
theorem dn6 {E:En} {r:Dk} (hk:r.k=6):dnC E r=ctC E r.t∧dnW E r=ctV E r.t∧dnL E r=[]∧dnG E r=ctE E r.t:=by
  refine ⟨by simp [dnC,hk],?_,by simp [dnL,hk],by simp [dnG,hk]⟩;have e:dnC E r=ctC E r.t:=(by simp [dnC,hk]);unfold dnW;rw [if_neg (by omega),e];split
  · simp [dnV,hk]
  · rename_i h;unfold ctV;rw [if_neg h]
theorem dn7 {E:En} {r:Dk} (hk:r.k=7):dnC E r=askC E r.t∧dnW E r=0∧dnL E r=[]∧dnG E r=abE E r.t:=by
  refine ⟨by simp [dnC,hk],by simp [dnW,dnV,hk],by simp [dnL,hk],by simp [dnG,hk]⟩
theorem doKinds (E:En) (r:Dk) (a:Option Addr) (cap:Nat) (a':Option Addr) (cap':Nat) (w:World) (hs:SmallE E) (h:EngAt w a a' E) (h0:eF E=0) (hk:inB r.k 1 7=true) :
    Calls Tryz.prog 22 #[.agg #[.int .i64 E.nx,.int .i64 E.ck,.slice a E.p cap,.slice a' E.q cap'],.agg #[.int .i64 r.k,.int .i64 r.t,.int .i64 r.y,.int .i64 r.o]] w (DoR 0 (dnC E r) (dnW E r) (dnL E r) (dnE E r) w):=by
  have hr:r.k=1∨r.k=2∨r.k=3∨r.k=4∨r.k=5∨r.k=6∨r.k=7:=by
    unfold inB at hk;simp at hk;omega
  rcases hr with e | e | e | e | e | e | e
  · obtain ⟨k1,k2,k3,k4⟩:=dn1 (E:=E) e;exact doOne _ _ E r a cap a' cap' w hs h h0 hk (fun w=>by rw [e];exact actOf1 w) k4 (fun _ _=>by kernel_rfl) (fun a cap a' cap' w h=>by rw [k1,k2,k3];exact act_bt E r a cap a' cap' w hs h)
  · obtain ⟨k1,k2,k3,k4⟩:=dn2 (E:=E) e;exact doOne _ _ E r a cap a' cap' w hs h h0 hk (fun w=>by rw [e];exact actOf2 w) k4 (fun _ _=>by kernel_rfl) (fun a cap a' cap' w h=>by rw [k1,k2,k3];exact act_rk E r a cap a' cap' w hs h)
  · obtain ⟨k1,k2,k3,k4⟩:=dn3 (E:=E) e;exact doOne _ _ E r a cap a' cap' w hs h h0 hk (fun w=>by rw [e];exact actOf3 w) k4 (fun _ _=>by kernel_rfl) (fun a cap a' cap' w h=>by rw [k1,k2,k3];exact act_sk E r a cap a' cap' w hs h)
  · obtain ⟨k1,k2,k3,k4⟩:=dn4 (E:=E) e;exact doOne _ _ E r a cap a' cap' w hs h h0 hk (fun w=>by rw [e];exact actOf4 w) k4 (fun _ _=>by kernel_rfl) (fun a cap a' cap' w h=>by rw [k1,k2,k3];exact act_pk E r a cap a' cap' w hs h)
  · obtain ⟨k1,k2,k3,k4⟩:=dn5 (E:=E) e;exact doOne _ _ E r a cap a' cap' w hs h h0 hk (fun w=>by rw [e];exact actOf5 w) k4 (fun _ _=>by kernel_rfl) (fun a cap a' cap' w h=>by rw [k1,k2,k3];exact act_dk E r a cap a' cap' w hs h)
  · obtain ⟨k1,k2,k3,k4⟩:=dn6 (E:=E) e;exact doOne _ _ E r a cap a' cap' w hs h h0 hk (fun w=>by rw [e];exact actOf6 w) k4 (fun _ _=>by kernel_rfl) (fun a cap a' cap' w h=>by rw [k1,k2,k3];exact act_ct E r a cap a' cap' w hs h)
  · obtain ⟨k1,k2,k3,k4⟩:=dn7 (E:=E) e;exact doOne _ _ E r a cap a' cap' w hs h h0 hk (fun w=>by rw [e];exact actOf7 w) k4 (fun _ _=>by kernel_rfl) (fun a cap a' cap' w h=>by rw [k1,k2,k3];exact act_ab E r a cap a' cap' w hs h)
set_option maxHeartbeats 16000000 in
theorem implDo_any (E:En) (r:Dk) (a:Option Addr) (cap:Nat) (a':Option Addr) (cap':Nat) (w:World) (hs:SmallE E) (h:EngAt w a a' E) :
    Calls Tryz.prog 22 #[.agg #[.int .i64 E.nx,.int .i64 E.ck,.slice a E.p cap,.slice a' E.q cap'],.agg #[.int .i64 r.k,.int .i64 r.t,.int .i64 r.y,.int .i64 r.o]] w (DoR (doC E r) (drC E r) (drV E r) (drL E r) (drE E r) w):=by
  by_cases h0:eF E=0
  · by_cases hk:inB r.k 1 7=true
    · obtain ⟨k1,k2,k3,k4⟩:=dr_ok (do_ok h0 hk);rw [do_ok h0 hk,k1,k2,k3,k4];exact doKinds E r a cap a' cap' w hs h h0 hk
    · have hk2:inB r.k 1 7=false:=by simpa using hk
      have hc:=do_kind h0 hk2;obtain ⟨k1,k2,k3,k4⟩:=dr_bad hc (by decide);rw [hc,k1,k2,k3,k4];clear hc k1 k2 k3 k4 hk;have HX:Hid (EngAt w a a' E):=h;have HS:Hid (SmallE E):=hs;have HB1:Hid (BxD w _ E r (.slice a E.p cap) (.slice a' E.q cap')):=BxD.start w E r (.slice a E.p cap) (.slice a' E.q cap') 30 50 48;have H0:Hid (eF E=0):=h0;have HK:Hid (inB r.k 1 7=false):=hk2;clear h hs h0 hk2;go_enter Tryz.func22,Tryz.ntmps22;go_wp2_with fail;refine (implEf_any E a cap a' cap' _ HS.out (HX.out.below HB1.out.below)).mono ?_;rintro e W ⟨rfl,hb1⟩;have HB:Hid (BxD w W E r (.slice a E.p cap) (.slice a' E.q cap')):=HB1.out.mono hb1;clear hb1 HB1;rw [H0.out];obtain ⟨a0,a1,a2,a3⟩:=HB.out.a;go_wp2_with fail;refine (isActK9_any r.k _).mono ?_;rintro e w2 ⟨rfl,hw2⟩;obtain rfl:=hw2.symm;rw [HK.out];obtain ⟨⟨r0,r1,r2,r3⟩,r4,r5,r6,r7⟩:=HB.out.r;have rf:=HB.out.rf;have hsz:=HB.out.hsz;have HF:Hid (∀w7,Below w.heap.size w w7→DoR 3 0 0 [] zEn w (.returned (.agg #[.int .i64 3,.int .i64 0,.int .i64 0,.slice none 0 0,.int .i64 0,.int .i64 0,.slice none 0 0,.slice none 0 0])) w7):=fun w7 hb=>dor_bad hb;clear a0 a1 a2 a3;go_wp2_with fail;refine bodyPost_ret (v:=.agg #[.int .i64 3,.int .i64 0,.int .i64 0,.slice none 0 0,.int .i64 0,.int .i64 0,.slice none 0 0,.slice none 0 0]) (by simp [results,Tryz.results22,go_sem, *]) rfl ?_;refine HF.out _ ?_
      repeat (first | with_reducible exact HB.out.below | with_reducible refine Below.setCell ?_ (by first | omega | (simp <;> omega)) _)
  · have hc:=do_fault (r:=r) h0;obtain ⟨k1,k2,k3,k4⟩:=dr_bad hc h0;rw [hc,k1,k2,k3,k4];clear hc k1 k2 k3 k4;have HX:Hid (EngAt w a a' E):=h;have HS:Hid (SmallE E):=hs;have HB1:Hid (BxD w _ E r (.slice a E.p cap) (.slice a' E.q cap')):=BxD.start w E r (.slice a E.p cap) (.slice a' E.q cap') 30 50 48;have hc2:(eF E != 0)=true:=(by simp [h0]);clear h hs h0;go_enter Tryz.func22,Tryz.ntmps22;go_wp2_with fail;refine (implEf_any E a cap a' cap' _ HS.out (HX.out.below HB1.out.below)).mono ?_;rintro e W ⟨rfl,hb1⟩;have HB:Hid (BxD w W E r (.slice a E.p cap) (.slice a' E.q cap')):=HB1.out.mono hb1;clear hb1 HB1;obtain ⟨⟨r0,r1,r2,r3⟩,r4,r5,r6,r7⟩:=HB.out.r;have rf:=HB.out.rf;have hsz:=HB.out.hsz;have HF:Hid (∀w7,Below w.heap.size w w7→DoR (eF E) 0 0 [] zEn w (.returned (.agg #[.int .i64 (eF E),.int .i64 0,.int .i64 0,.slice none 0 0,.int .i64 0,.int .i64 0,.slice none 0 0,.slice none 0 0])) w7):=fun w7 hb=>dor_bad hb;generalize eF E=uu at *;go_wp2_with fail;refine bodyPost_ret (v:=.agg #[.int .i64 uu,.int .i64 0,.int .i64 0,.slice none 0 0,.int .i64 0,.int .i64 0,.slice none 0 0,.slice none 0 0]) (by simp [results,Tryz.results22,go_sem, *]) rfl ?_;refine HF.out _ ?_
    repeat (first | with_reducible exact HB.out.below | with_reducible refine Below.setCell ?_ (by first | omega | (simp <;> omega)) _)
theorem Writes.new {lo hi l h:Nat} {a b c:World} (x:Writes lo hi a b) (y:Writes l h b c) (hl:a.heap.size≤l):Writes lo hi a c:=
  ⟨y.os.trans x.os,y.tape.trans x.tape,y.output.trans x.output,Nat.le_trans x.size y.size,fun k hk hd=>(y.block k (Nat.lt_of_lt_of_le hk x.size) (.inl (Nat.lt_of_lt_of_le hk hl))).trans (x.block k hk hd)⟩
theorem hear_any (k t y o c rc rv nx ck:Int) (n p q:Nat) (a d d':Option Addr) (ca cd cd':Nat) (w:World) :
    Calls Tryz.prog 88 #[.agg #[.int .i64 k,.int .i64 t,.int .i64 y,.int .i64 o],.agg #[.int .i64 c,.int .i64 rc,.int .i64 rv,.slice a n ca,.int .i64 nx,.int .i64 ck,.slice d p cd,.slice d' q cd']] w fun e w'=>e=.returned (.tuple #[])∧Below w.heap.size w w':=by
  have HB:Hid (∀o1 o2:Obj,Below w.heap.size w ((w.alloc o1).alloc o2)):=fun o1 o2=>(below_new _ _).alloc (by simp) _;go_enter Tryz.func88,Tryz.ntmps88;go_wp2_with fail;go_end0;exact ⟨rfl,HB.out _ _⟩
theorem doNo (E:En) (r:Dk) (a:Option Addr) (cap:Nat) (a':Option Addr) (cap':Nat) (w:World) (h0:eF E=0) (hk:inB r.k 1 7=false) (h:EngAt w a a' E) :
    Calls Tryz.prog 22 #[.agg #[.int .i64 E.nx,.int .i64 E.ck,.slice a E.p cap,.slice a' E.q cap'],.agg #[.int .i64 r.k,.int .i64 r.t,.int .i64 r.y,.int .i64 r.o]] w fun e w'=>(∃la lc x cx x' cx',e=.returned (.agg #[.int .i64 3,.int .i64 0,.int .i64 0,.slice la 0 lc,.int .i64 0,.int .i64 0,.slice x 0 cx,.slice x' 0 cx']))∧Below w.heap.size w w':=by
  have hc:=do_kind h0 hk;obtain ⟨k1,k2,k3,k4⟩:=dr_bad hc (by decide);have hh:=implDo_any E r a cap a' cap' w (few_small h0) h;rw [hc,k1,k2,k3,k4] at hh;refine hh.mono ?_;rintro e w' ⟨la,lc,x,cx,x',cx',rfl,hb,-⟩;exact ⟨⟨la,lc,x,cx,x',cx',rfl⟩,hb⟩
def ActQ (c v:Int) (L:List (Int × Int)) (G:En) (E:En) (d:Option Addr) (cd:Nat) (d':Option Addr) (cd':Nat) (Bn:Nat) (w:World) (e:Ending) (w':World):Prop:=
  ∃la lc x cx x' cx',e=.returned (.agg #[.int .i64 c,.int .i64 v,.slice la L.length lc])∧Writes Bn (Bn+1) w w'∧Box4f w' Bn (.int .i64 G.nx) (.int .i64 G.ck) (.slice x G.p cx) (.slice x' G.q cx')∧
    Own w' w.heap.size w'.heap.size la L.length (kC L) (vC L)∧((∃lo hi,w.heap.size≤lo∧hi≤w'.heap.size∧OwnE2 w' lo hi x x' G)∨(G=E∧x=d∧cx=cd∧x'=d'∧cx'=cd'))
def ActR (E:En) (r:Ac) (d:Option Addr) (cd:Nat) (d':Option Addr) (cd':Nat) (Bn:Nat) (w:World):Ending→World→Prop:=ActQ (dnC E (dkA r)) (dnW E (dkA r)) (dnL E (dkA r)) (dnE E (dkA r)) E d cd d' cd' Bn w
set_option maxHeartbeats 16000000 in
theorem act9_ok (E:En) (r:Ac) (d:Option Addr) (cd:Nat) (d':Option Addr) (cd':Nat) (Bn Bh:Nat) (w:World) (h0:eF E=0) (hk:inB r.k 1 7=true) (hx:EngAt w d d' E) (hn:Box4f w Bn (.int .i64 E.nx) (.int .i64 E.ck) (.slice d E.p cd) (.slice d' E.q cd')) (hh:w.cell? ⟨Bh,0,none⟩=some (.func (.func 88) #[] #[])) (hne:Bn≠Bh) :
    Calls Tryz.prog 161 #[.agg #[.int .i64 r.k,.int .i64 r.t,.int .i64 r.y,.int .i64 r.o],.pointer (some ⟨Bn,0,none⟩),.pointer (some ⟨Bh,0,none⟩)] w (ActR E r d cd d' cd' Bn w):=by
  have hbn:Bn<w.heap.size:=World.block_lt_of_cell? w _ hn.1.1;have hbh:Bh<w.heap.size:=World.block_lt_of_cell? w _ hh;have HX:Hid (EngAt w d d' E):=hx;have HN:Hid (Box4f w Bn (.int .i64 E.nx) (.int .i64 E.ck) (.slice d E.p cd) (.slice d' E.q cd')):=hn;have HH:Hid (w.cell? ⟨Bh,0,none⟩=some (.func (.func 88) #[] #[])):=hh;have HE:Hid (Bn≠Bh):=hne;have HD:Hid (∀W,Below w.heap.size w W→Calls Tryz.prog 22 #[.agg #[.int .i64 E.nx,.int .i64 E.ck,.slice d E.p cd,.slice d' E.q cd'],.agg #[.int .i64 r.k,.int .i64 r.t,.int .i64 r.y,.int .i64 r.o]] W (DoR 0 (dnC E (dkA r)) (dnW E (dkA r)) (dnL E (dkA r)) (dnE E (dkA r)) W)):=fun W hb=>doKinds E (dkA r) d cd d' cd' W (few_small h0) (hx.below hb) h0 hk
  have HB0:Hid (∀o1 o2:Obj,o1=.cells #[.int .i64 r.k,.int .i64 r.t,.int .i64 r.y,.int .i64 r.o] 50→o2=.cells #[.int .i64 0,.int .i64 0,.slice none 0 0] 46→
      Box4 ((w.alloc o1).alloc o2) w.heap.size (.int .i64 r.k) (.int .i64 r.t) (.int .i64 r.y) (.int .i64 r.o)∧Box3f ((w.alloc o1).alloc o2) (w.heap.size+1) (.int .i64 0) (.int .i64 0) (.slice none 0 0)∧Below w.heap.size w ((w.alloc o1).alloc o2)∧((w.alloc o1).alloc o2).heap.size=w.heap.size+2):=by
    rintro o1 o2 rfl rfl;exact ⟨(Box4.new w _ _ _ _ _).alloc _,by simp [Box3f,Box3,go_sem],((Below.refl _ _).alloc (Nat.le_refl _) _).alloc (by simp) _,by simp⟩
  show Calls _ _ _ _ (ActQ _ _ _ _ _ _ _ _ _ _ _);generalize dnC E (dkA r)=c at *;generalize dnW E (dkA r)=v at *;generalize dnL E (dkA r)=L at *;generalize dnE E (dkA r)=G at *;clear hh hx hk h0 hne;obtain ⟨⟨n0,n1,n2,n3⟩,nf⟩:=hn;have N0:=fun o p:Obj=>cell_alloc (cell_alloc n0 o) p;have N1:=fun o p:Obj=>cell_alloc (cell_alloc n1 o) p;have N2:=fun o p:Obj=>cell_alloc (cell_alloc n2 o) p;have N3:=fun o p:Obj=>cell_alloc (cell_alloc n3 o) p;clear n0 n1 n2 n3 nf;go_enter Tryz.func161,Tryz.ntmps161;go_wp2_with fail;refine (HD.out _ (HB0.out _ _ rfl rfl).2.2.1).mono ?_;rintro e w1 ⟨la,lc,x,cx,x',cx',rfl,hb1,ho⟩;obtain ⟨bA,bR,bW,bz⟩:=HB0.out _ _ rfl rfl;generalize ((w.alloc (.cells #[.int .i64 r.k,.int .i64 r.t,.int .i64 r.y,.int .i64 r.o] 50)).alloc (.cells #[.int .i64 0,.int .i64 0,.slice none 0 0] 46))=W0 at *;have HZ0:Hid (W0.heap.size=w.heap.size+2∧W0.heap.size≤w1.heap.size):=⟨bz,hb1.size⟩;have HW1:Hid (Below w.heap.size w w1):=below_then bW hb1;have HA1:Hid (Box4 w1 w.heap.size (.int .i64 r.k) (.int .i64 r.t) (.int .i64 r.y) (.int .i64 r.o)):=bA.below hb1;have HR1:Hid (Box3f w1 (w.heap.size+1) (.int .i64 0) (.int .i64 0) (.slice none 0 0)):=bR.below hb1;have HO:Hid (OwnRR w1 W0.heap.size w1.heap.size la L.length (kC L) (vC L) x x' G):=ho;clear HB0 HD bA bR bW bz hb1 ho N0 N1 N2 N3;go_upto_region 4 with fail;obtain ⟨w2,hw2⟩:∃y,y=w1.alloc (.cells #[.int .i64 0,.int .i64 c,.int .i64 v,.slice la L.length lc,.int .i64 G.nx,.int .i64 G.ck,.slice x G.p cx,.slice x' G.q cx'] 48):=⟨_,rfl⟩;have hb2:Below w1.heap.size w1 w2:=(by rw [hw2];exact below_new _ _);have HQ2:Hid (Box8r w2 w1.heap.size (.int .i64 0) (.int .i64 c) (.int .i64 v) (.slice la L.length lc) (.int .i64 G.nx) (.int .i64 G.ck) (.slice x G.p cx) (.slice x' G.q cx')):=(by rw [hw2];exact Box8r.new _ _ _ _ _ _ _ _ _ _);have hz2:Hid (w1.heap.size<w2.heap.size):=(by rw [hw2];show _ < _;simp);rw [←hw2];clear hw2;have HW2:Hid (Below w.heap.size w w2):=below_then HW1.out hb2;have HA2:Hid (Box4 w2 w.heap.size (.int .i64 r.k) (.int .i64 r.t) (.int .i64 r.y) (.int .i64 r.o)):=HA1.out.below hb2;have HR2:Hid (Box3f w2 (w.heap.size+1) (.int .i64 0) (.int .i64 0) (.slice none 0 0)):=HR1.out.below hb2;have HN2:Hid (Box4f w2 Bn (.int .i64 E.nx) (.int .i64 E.ck) (.slice d E.p cd) (.slice d' E.q cd')):=HN.out.below HW2.out;have HO2:Hid (OwnRR w2 W0.heap.size w1.heap.size la L.length (kC L) (vC L) x x' G):=HO.out.below hb2;clear HA1 HR1 HO hb2;obtain ⟨⟨q0,q1,q2,q3⟩,q4,q5,q6,q7⟩:=HQ2.out;obtain ⟨⟨n0,n1,n2,n3⟩,nf⟩:=HN2.out;go_upto_region 5 with fail;have hw3:=wr4 w2 Bn (.int .i64 G.nx) (.int .i64 G.ck) (.slice x G.p cx) (.slice x' G.q cx');have HN3:Hid (Box4f ((((w2.setCell ⟨Bn,0,none⟩ (.int .i64 G.nx)).setCell ⟨Bn,1,none⟩ (.int .i64 G.ck)).setCell ⟨Bn,2,none⟩ (.slice x G.p cx)).setCell ⟨Bn,3,none⟩ (.slice x' G.q cx')) Bn (.int .i64 G.nx) (.int .i64 G.ck) (.slice x G.p cx) (.slice x' G.q cx')):=HN2.out.set;have hs3:((((w2.setCell ⟨Bn,0,none⟩ (.int .i64 G.nx)).setCell ⟨Bn,1,none⟩ (.int .i64 G.ck)).setCell ⟨Bn,2,none⟩ (.slice x G.p cx)).setCell ⟨Bn,3,none⟩ (.slice x' G.q cx')).heap.size=w2.heap.size:=(by simp [World.setCell]);clear q0 q1 q2 q3 q4 q5 q6 q7 n0 n1 n2 n3 nf;generalize ((((w2.setCell ⟨Bn,0,none⟩ (.int .i64 G.nx)).setCell ⟨Bn,1,none⟩ (.int .i64 G.ck)).setCell ⟨Bn,2,none⟩ (.slice x G.p cx)).setCell ⟨Bn,3,none⟩ (.slice x' G.q cx'))=w3 at *;have HS3:Hid (w3.heap.size=w2.heap.size):=hs3;have HW3:Hid (Writes Bn (Bn+1) w w3):=(Writes.of_below HW2.out).trans hw3;have zz:=HZ0.out;have z2:=hz2.out;have HA3:Hid (Box4 w3 w.heap.size (.int .i64 r.k) (.int .i64 r.t) (.int .i64 r.y) (.int .i64 r.o)):=HA2.out.writes hw3 (by omega);have HR3:Hid (Box3f w3 (w.heap.size+1) (.int .i64 0) (.int .i64 0) (.slice none 0 0)):=HR2.out.writes hw3 (by omega);have HQ3:Hid (Box8r w3 w1.heap.size (.int .i64 0) (.int .i64 c) (.int .i64 v) (.slice la L.length lc) (.int .i64 G.nx) (.int .i64 G.ck) (.slice x G.p cx) (.slice x' G.q cx')):=HQ2.out.writes hw3 (by omega);have HO3:Hid (OwnRR w3 W0.heap.size w1.heap.size la L.length (kC L) (vC L) x x' G):=HO2.out.writes hw3 (by omega);have hh3:w3.cell? ⟨Bh,0,none⟩=some (.func (.func 88) #[] #[]):=cell_writes (cell_below HH.out HW2.out) hw3 (by have:=HE.out;omega);obtain ⟨⟨q0,q1,q2,q3⟩,q4,q5,q6,q7⟩:=HQ3.out;obtain ⟨a0,a1,a2,a3⟩:=HA3.out;clear HA2 HR2 HQ2 HO2 HN2 HW2 HW1 hw3 hs3 zz z2 hz2;go_wp2_with fail;refine (hear_any r.k r.t r.y r.o 0 c v G.nx G.ck L.length G.p G.q la x x' lc cx cx' _).mono ?_;rintro e w4 ⟨rfl,hb4⟩;clear q0 q1 q2 q3 q4 q5 q6 q7 a0 a1 a2 a3 hh3;have HR4:Hid (Box3f w4 (w.heap.size+1) (.int .i64 0) (.int .i64 0) (.slice none 0 0)):=HR3.out.below hb4;have HQ4:Hid (Box8r w4 w1.heap.size (.int .i64 0) (.int .i64 c) (.int .i64 v) (.slice la L.length lc) (.int .i64 G.nx) (.int .i64 G.ck) (.slice x G.p cx) (.slice x' G.q cx')):=HQ3.out.below hb4
  have HF:Hid (∀w7,Writes (w.heap.size+1) (w.heap.size+1+1) w4 w7→w7.heap.size=w4.heap.size→ActQ c v L G E d cd d' cd' Bn w (.returned (.agg #[.int .i64 c,.int .i64 v,.slice la L.length lc])) w7):=fun w7 hw h7=>by
    have z1:=hb4.size;have z3:=HS3.out;have zz:=HZ0.out;obtain ⟨j0,l1,h1,l2,h2,k0,k1,k2,k3,k4,k5,k6⟩:=HO3.out.below hb4;exact ⟨la,lc,x,cx,x',cx',rfl,(HW3.out.trans (Writes.of_below hb4)).new hw (by omega),(HN3.out.below hb4).writes hw (by omega),(k5.writes hw (by omega)).wide (by omega) (by omega) (Nat.le_refl _),.inl ⟨l2,h2,by omega,by omega,(k6.writes hw (by omega)).to2⟩⟩
  obtain ⟨⟨q0,q1,q2,q3⟩,q4,q5,q6,q7⟩:=HQ4.out;obtain ⟨⟨r0,r1,r2⟩,rf⟩:=HR4.out;clear HR3 HQ3 HO3 HN3 HW3 HA3 HS3 hb4;generalize L.length=ln at *;go_wp2_with fail;refine bodyPost_ret (v:=.agg #[.int .i64 c,.int .i64 v,.slice la ln lc]) (by simp [results,Tryz.results161,go_sem, *]) rfl ?_;refine HF.out _ ?_ (by simp [World.setCell]);exact wr3 _ _ _ _ _
set_option maxHeartbeats 16000000 in
theorem act9_no (E:En) (r:Ac) (d:Option Addr) (cd:Nat) (d':Option Addr) (cd':Nat) (Bn Bh:Nat) (w:World) (h0:eF E=0) (hk:inB r.k 1 7=false) (hx:EngAt w d d' E) (hn:Box4f w Bn (.int .i64 E.nx) (.int .i64 E.ck) (.slice d E.p cd) (.slice d' E.q cd')) :
    Calls Tryz.prog 161 #[.agg #[.int .i64 r.k,.int .i64 r.t,.int .i64 r.y,.int .i64 r.o],.pointer (some ⟨Bn,0,none⟩),.pointer (some ⟨Bh,0,none⟩)] w (ActR E r d cd d' cd' Bn w):=by
  obtain ⟨k1,k2,k3,k4⟩:=dn_no (E:=E) (r:=dkA r) hk;show Calls _ _ _ _ (ActQ (dnC E (dkA r)) (dnW E (dkA r)) (dnL E (dkA r)) (dnE E (dkA r)) _ _ _ _ _ _ _);rw [k1,k2,k3,k4];have hbn:Bn<w.heap.size:=World.block_lt_of_cell? w _ hn.1.1;have HN:Hid (Box4f w Bn (.int .i64 E.nx) (.int .i64 E.ck) (.slice d E.p cd) (.slice d' E.q cd')):=hn;have HD:Hid (∀W,Below w.heap.size w W→Calls Tryz.prog 22 #[.agg #[.int .i64 E.nx,.int .i64 E.ck,.slice d E.p cd,.slice d' E.q cd'],.agg #[.int .i64 r.k,.int .i64 r.t,.int .i64 r.y,.int .i64 r.o]] W fun e w'=>(∃la lc x cx x' cx',e=.returned (.agg #[.int .i64 3,.int .i64 0,.int .i64 0,.slice la 0 lc,.int .i64 0,.int .i64 0,.slice x 0 cx,.slice x' 0 cx']))∧Below W.heap.size W w'):=fun W hb=>doNo E (dkA r) d cd d' cd' W h0 hk (hx.below hb)
  have HB0:Hid (∀o1 o2:Obj,o1=.cells #[.int .i64 r.k,.int .i64 r.t,.int .i64 r.y,.int .i64 r.o] 50→o2=.cells #[.int .i64 0,.int .i64 0,.slice none 0 0] 46→
      Box3f ((w.alloc o1).alloc o2) (w.heap.size+1) (.int .i64 0) (.int .i64 0) (.slice none 0 0)∧Below w.heap.size w ((w.alloc o1).alloc o2)∧((w.alloc o1).alloc o2).heap.size=w.heap.size+2):=by
    rintro o1 o2 rfl rfl;exact ⟨by simp [Box3f,Box3,go_sem],((Below.refl _ _).alloc (Nat.le_refl _) _).alloc (by simp) _,by simp⟩
  clear hx hk h0 k1 k2 k3 k4;obtain ⟨⟨n0,n1,n2,n3⟩,nf⟩:=hn;have N0:=fun o p:Obj=>cell_alloc (cell_alloc n0 o) p;have N1:=fun o p:Obj=>cell_alloc (cell_alloc n1 o) p;have N2:=fun o p:Obj=>cell_alloc (cell_alloc n2 o) p;have N3:=fun o p:Obj=>cell_alloc (cell_alloc n3 o) p;clear n0 n1 n2 n3 nf;go_enter Tryz.func161,Tryz.ntmps161;go_wp2_with fail;refine (HD.out _ (HB0.out _ _ rfl rfl).2.1).mono ?_;rintro e w1 ⟨⟨la,lc,x,cx,x',cx',rfl⟩,hb1⟩;obtain ⟨bR,bW,bz⟩:=HB0.out _ _ rfl rfl;generalize ((w.alloc (.cells #[.int .i64 r.k,.int .i64 r.t,.int .i64 r.y,.int .i64 r.o] 50)).alloc (.cells #[.int .i64 0,.int .i64 0,.slice none 0 0] 46))=W0 at *;have HZ0:Hid (W0.heap.size=w.heap.size+2∧W0.heap.size≤w1.heap.size):=⟨bz,hb1.size⟩;have HW1:Hid (Below w.heap.size w w1):=below_then bW hb1;have HR1:Hid (Box3f w1 (w.heap.size+1) (.int .i64 0) (.int .i64 0) (.slice none 0 0)):=bR.below hb1;clear HB0 HD bR bW bz hb1 N0 N1 N2 N3;go_upto_region 3 with fail;obtain ⟨w2,hw2⟩:∃y,y=w1.alloc (.cells #[.int .i64 3,.int .i64 0,.int .i64 0,.slice la 0 lc,.int .i64 0,.int .i64 0,.slice x 0 cx,.slice x' 0 cx'] 48):=⟨_,rfl⟩;have hb2:Below w1.heap.size w1 w2:=(by rw [hw2];exact below_new _ _);have hq2:w2.cell? ⟨w1.heap.size,0,none⟩=some (.int .i64 3):=(by rw [hw2];simp [go_sem]);rw [←hw2];clear hw2;have HW2:Hid (Below w.heap.size w w2):=below_then HW1.out hb2;have HR2:Hid (Box3f w2 (w.heap.size+1) (.int .i64 0) (.int .i64 0) (.slice none 0 0)):=HR1.out.below hb2;have HZ2:Hid (w.heap.size+2≤w2.heap.size):=(by have:=hb2.size;have:=HZ0.out;show _≤_;omega);obtain ⟨⟨r0,r1,r2⟩,rf⟩:=HR2.out
  have HF:Hid (∀w7,Writes (w.heap.size+1) (w.heap.size+1+1) w2 w7→ActQ 3 0 [] E E d cd d' cd' Bn w (.returned (.agg #[.int .i64 3,.int .i64 0,.slice none 0 0])) w7):=fun w7 hw=>
    ⟨none,0,d,cd,d',cd',rfl,(Writes.of_below HW2.out).new hw (by omega),(HN.out.below HW2.out).writes hw (by omega),⟨Nat.le_refl _,.inl rfl⟩,.inr ⟨rfl,rfl,rfl,rfl,rfl⟩⟩
  clear HR1 hb2 HN;go_wp2_with fail;refine bodyPost_ret (v:=.agg #[.int .i64 3,.int .i64 0,.slice none 0 0]) (by simp [results,Tryz.results161,go_sem, *]) rfl ?_;refine HF.out _ ?_;exact wr3 _ _ _ _ _
theorem act9_any (E:En) (r:Ac) (d:Option Addr) (cd:Nat) (d':Option Addr) (cd':Nat) (Bn Bh:Nat) (w:World) (h0:eF E=0) (hx:EngAt w d d' E) (hn:Box4f w Bn (.int .i64 E.nx) (.int .i64 E.ck) (.slice d E.p cd) (.slice d' E.q cd')) (hh:w.cell? ⟨Bh,0,none⟩=some (.func (.func 88) #[] #[])) (hne:Bn≠Bh) :
    Calls Tryz.prog 161 #[.agg #[.int .i64 r.k,.int .i64 r.t,.int .i64 r.y,.int .i64 r.o],.pointer (some ⟨Bn,0,none⟩),.pointer (some ⟨Bh,0,none⟩)] w (ActR E r d cd d' cd' Bn w):=by
  rcases bool_orW (inB r.k 1 7) with hk | hk
  · exact act9_ok E r d cd d' cd' Bn Bh w h0 hk hx hn hh hne
  · exact act9_no E r d cd d' cd' Bn Bh w h0 hk hx hn
def Box2f (w:World) (B:Nat) (c0 c1:Value):Prop:=Box2 w B c0 c1∧∀o,w.frozen? ⟨B,o,none⟩=false
theorem Box2f.writes {w w':World} {lo hi B:Nat} {c0 c1:Value} (h:Box2f w B c0 c1) (x:Writes lo hi w w') (d:B<lo∨hi≤B):Box2f w' B c0 c1:=⟨h.1.writes x d,frozenW h.2 (World.block_lt_of_cell? w _ h.1.1) x d⟩
theorem Box2f.below {w w':World} {B:Nat} {c0 c1:Value} (h:Box2f w B c0 c1) (x:Below w.heap.size w w'):Box2f w' B c0 c1:=h.writes (Writes.of_below (lo:=w.heap.size) (hi:=w.heap.size) x) (.inl (World.block_lt_of_cell? w _ h.1.1))
theorem Box2f.new (w:World) (c0 c1:Value) (t:TypeId):Box2f (w.alloc (.cells #[c0,c1] t)) w.heap.size c0 c1:=by simp [Box2f,Box2,go_sem]
theorem wr2 (w:World) (B:Nat) (c0 c1:Value):Writes B (B+1) w ((w.setCell ⟨B,0,none⟩ c0).setCell ⟨B,1,none⟩ c1):=
  ((Writes.refl B (B+1) w).setCell (p:=⟨B,0,none⟩) (Nat.le_refl _) (Nat.lt_succ_self _) c0).setCell (p:=⟨B,1,none⟩) (Nat.le_refl _) (Nat.lt_succ_self _) c1
theorem grownW9 {a b:World} {row:Option Nat} (h:a.grownBy b row):∃q,(row=some q∨q=a.heap.size)∧Writes q (q+1) a b:=by
  cases row with
  | none=>exact ⟨a.heap.size,.inr rfl,h.os,h.tape,h.output,h.size,fun k hk _=>h.block k hk (by simp)⟩
  | some q=>exact ⟨q,.inl rfl,h.os,h.tape,h.output,h.size,fun k hk hd=>h.block k hk (by intro e;injection e;omega)⟩
def NowE (w:World) (Bn Bh:Nat) (row:Option Nat) (E:En):Prop:=
  w.cell? ⟨Bh,0,none⟩=some (.func (.func 88) #[] #[])∧Bn≠Bh∧
  ∃d cd d' cd' lo hi,Box4f w Bn (.int .i64 E.nx) (.int .i64 E.ck) (.slice d E.p cd) (.slice d' E.q cd')∧OwnE2 w lo hi d d' E∧(Bn<lo∨hi≤Bn)∧∀q,row=some q→q<lo∨hi≤q
structure RuI (W wr:World) (Bn Bh:Nat) (E:En) (A:Nat→Ac) (v:Value) (k:Nat):Prop where
  hw:Writes Bn (Bn+1) W wr
  hBn:Bn<W.heap.size
  hBh:Bh<W.heap.size
  rb:Box2f wr W.heap.size (.int .i64 0) (.slice none 0 0)
  now:NowE wr Bn Bh v.ownBlock (egN E A k)
  gr:GrRp (W.heap.size+1) wr.heap.size wr v k (rpA E A)
theorem RuI.start {W:World} {Bn Bh:Nat} {E:En} {A:Nat→Ac} (h:NowE W Bn Bh none E) (t:TypeId):RuI W (W.alloc (.cells #[.int .i64 0,.slice none 0 0] t)) Bn Bh E A (.slice none 0 0) 0:=by
  have hb:=below_new W (.cells #[.int .i64 0,.slice none 0 0] t);obtain ⟨h1,h2,d,cd,d',cd',lo,hi,h3,h4,h5,h6⟩:=h;have z1:=World.block_lt_of_cell? W _ h3.1.1;have z2:=World.block_lt_of_cell? W _ h1;refine ⟨Writes.of_below hb,z1,z2,Box2f.new _ _ _ _,⟨cell_below h1 hb,h2,d,cd,d',cd',lo,hi,h3.below hb,h4.below hb,h5,fun q hq=>by cases hq⟩,?_⟩;have e:W.heap.size+1=(W.alloc (.cells #[.int .i64 0,.slice none 0 0] t)).heap.size:=(by simp);rw [e];exact GrRp.nil _ _ _
theorem RuI.step {W wr W1 w2 W2 w3:World} {Bn Bh g cap:Nat} {E:En} {A:Nat→Ac} {v:Value} {k:Nat} {d x d' x':Option Addr} {cd cx cd' cx':Nat} {lo hi:Nat} (h:RuI W wr Bn Bh E A v k) (hb1:Below wr.heap.size wr W1)
    (e2:OwnE2 wr lo hi d d' (egN E A k)) (e3:Bn<lo∨hi≤Bn) (e4:∀q,v.ownBlock=some q→q<lo∨hi≤q)
    (a1:Writes Bn (Bn+1) W1 w2) (a2:Box4f w2 Bn (.int .i64 (egN E A (k+1)).nx) (.int .i64 (egN E A (k+1)).ck) (.slice x (egN E A (k+1)).p cx) (.slice x' (egN E A (k+1)).q cx'))
    (a3:(∃lo hi,W1.heap.size≤lo∧hi≤w2.heap.size∧OwnE2 w2 lo hi x x' (egN E A (k+1)))∨(egN E A (k+1)=egN E A k∧x=d∧cx=cd∧x'=d'∧cx'=cd'))
    (hb2:Below w2.heap.size w2 W2) (hg:W2.grownBy w3 v.ownBlock) (hl:v.ownBlock=some g∨g=W2.heap.size) (hgr:GrRp (W.heap.size+1) w3.heap.size w3 (.slice (some ⟨g,0,none⟩) (k+1) cap) (k+1) (upf9 (rpA E A) k (rpA E A k))) :
    RuI W w3 Bn Bh E A (.slice (some ⟨g,0,none⟩) (k+1) cap) (k+1):=by
  obtain ⟨q,hq,hw3⟩:=grownW9 hg;have z0:=h.hBn;have z9:=h.hBh;have z1:=h.hw.size;have z2:=hb1.size;have z3:=a1.size;have z4:=hb2.size;have zr:=World.block_lt_of_cell? wr _ h.rb.1.1
  have hv:∀q,v.ownBlock=some q→W.heap.size+1≤q∧q<wr.heap.size:=fun q hq=>by
    obtain ⟨_,A9,c9,l9,h9,ho9,hv9,_⟩:=h.gr;exact ⟨(ho9.lt q hq).1,hv9 q hq⟩
  have zq:W.heap.size+1≤q:=by
    rcases hq with e | e
    · exact (hv q e).1
    · simp only [] at zr;omega
  obtain ⟨h1,h2,-⟩:=h.now;have hwW:Writes Bn (Bn+1) W W2:=((h.hw.trans (Writes.of_below hb1)).trans a1).trans (Writes.of_below hb2);refine ⟨hwW.new hw3 (by omega),z0,z9,?_,⟨?_,h2,x,cx,x',cx',?_⟩,GrRp.congr hgr fun i hi=>?_⟩
  · exact (((h.rb.below hb1).writes a1 (by omega)).below hb2).writes hw3 (by omega)
  · exact cell_writes (cell_below (cell_writes (cell_below h1 hb1) a1 (by omega)) hb2) hw3 (by omega)
  · rcases a3 with ⟨l2,h3,b1,b2,b3⟩ | ⟨b1,rfl,rfl,rfl,rfl⟩
    · refine ⟨l2,h3,(a2.below hb2).writes hw3 (by omega),(b3.below hb2).writes hw3 ?_,by omega,fun p hp=>?_⟩
      · rcases hq with e | e
        · have:=(hv q e).2;omega
        · omega
      · simp only [Value.ownBlock,Option.some.injEq] at hp;subst hp
        rcases hl with e | e
        · have:=(hv g e).2;omega
        · omega
    · have hhi:=e2.1;refine ⟨lo,hi,(a2.below hb2).writes hw3 (by omega),?_,e3,fun p hp=>?_⟩
      · rw [b1];refine (((e2.below hb1).writes a1 (by omega)).below hb2).writes hw3 ?_
        rcases hq with e | e
        · have:=e4 q e;omega
        · omega
      · simp only [Value.ownBlock,Option.some.injEq] at hp;subst hp
        rcases hl with e | e
        · exact e4 g e
        · omega
  · by_cases e:i=k
    · subst e;exact upf9_eq _ _ _
    · exact upf9_ne _ _ e
theorem lit_rp (w:World) (t:Rp) (a:Option Addr) (c:Nat):CRp (w.alloc (.cells #[.int .i64 t.cd,.int .i64 t.vl,.slice a t.cn c] 46)) w.heap.size 0 t a c:=by
  refine ⟨?_,?_,?_⟩ <;> simp [go_sem]
theorem RuI.fin {W wr w7:World} {Bn Bh m:Nat} {E:En} {A:Nat→Ac} {a:Option Addr} {cap:Nat} (h:RuI W wr Bn Bh E A (.slice a m cap) m) (hw:Writes W.heap.size (W.heap.size+1) wr w7):Writes Bn (Bn+1) W w7∧OwnRr w7 W.heap.size w7.heap.size a m (rpA E A):=by
  obtain ⟨a',cap',e,_,ho⟩:=h.gr.own;simp only [Value.slice.injEq,true_and] at e;obtain ⟨rfl,rfl⟩:=e;have hs:=hw.size;exact ⟨h.hw.new hw (Nat.le_refl _),Nat.le_refl _,(ho.keep hs fun x hx h2=>hw.block x h2 (by omega)).mono fun x hx=>⟨by omega,by omega⟩⟩
def RepR (c:Int) (m:Nat) (T:Nat→Rp) (Bn:Nat) (w:World) (e:Ending) (w':World):Prop:=
  ∃va vc,e=.returned (.agg #[.int .i64 c,.slice va m vc])∧Writes Bn (Bn+1) w w'∧OwnRr w' w.heap.size w'.heap.size va m T
theorem repTo_many (m:Nat) (T:Nat→Rp) (a:Option Addr) (cap Bn:Nat) (f:Value) (W:World) (hm:100<m) :
    Calls Tryz.prog 160 #[.slice a m cap,f] W (RepR 2 0 T Bn W):=by
  have hm':(100:Int)<(m:Int):=(by omega);have HF:Hid (∀w7,Below W.heap.size W w7→RepR 2 0 T Bn W (.returned (.agg #[.int .i64 2,.slice none 0 0])) w7):=fun w7 hb=>⟨none,0,rfl,Writes.of_below hb,Nat.le_refl _,.inl rfl⟩;go_enter Tryz.func160,Tryz.ntmps160;go_wp2_with fail;refine bodyPost_ret (v:=.agg #[.int .i64 2,.slice none 0 0]) (by simp [results,Tryz.results160,go_sem, *]) rfl ?_;refine HF.out _ ?_
  repeat (first | with_reducible exact Below.refl _ _ | with_reducible refine Below.setCell ?_ (by first | omega | (simp <;> omega)) _ | with_reducible refine Below.alloc ?_ (by first | omega | (simp <;> omega)) _)
set_option maxHeartbeats 16000000 in
theorem repTo_few (m:Nat) (A:Nat→Ac) (a:Option Addr) (cap Bn Bh:Nat) (E:En) (W0 W:World) (hm:¬100<m) (h0:eF E=0) (hA:AcsAt W0 a m A) (hb0:Below W0.heap.size W0 W) (hbn:W0.heap.size≤Bn) (hn:NowE W Bn Bh none E) :
    Calls Tryz.prog 160 #[.slice a m cap,.func (.func 161) #[] #[.pointer (some ⟨Bn,0,none⟩),.pointer (some ⟨Bh,0,none⟩)]] W (RepR 0 m (rpA E A) Bn W):=by
  have HA:Hid (∀wr,Writes Bn (Bn+1) W wr→AcsAt wr a m A):=fun wr hw=>hA.below (Writes.below hb0 hw hbn);have HS:Hid (RuI W (W.alloc (.cells #[.int .i64 0,.slice none 0 0] 61)) Bn Bh E A (.slice none 0 0) 0):=RuI.start hn _;have H0:Hid (eF E=0):=h0;have hm':¬((100:Int)<(m:Int)):=(by omega);clear hA hb0 hbn hn h0;go_enter Tryz.func160,Tryz.ntmps160;go_wp2_with fail;go_loopw [5,14] (fun q i wr=>∃(k:Nat) (v:Value),k≤m∧i=.int .i64 k∧v=q∧Hid (RuI W wr Bn Bh E A v k)) (fun _ i _=>m-(Go.RowKit.intOf i).toNat)
  case atStart=>exact ⟨0,_,Nat.zero_le _,rfl,rfl,HS⟩
  case round=>
    obtain ⟨k,v,hk,rfl,rfl,HR⟩:=hrel
    by_cases hlt:k<m
    · have hlt':(k:Int)<(m:Int):=by omega
      have hk0:(0:Int)≤(k:Int):=(by omega)
      rcases HA.out _ HR.out.hw with h | ⟨b,off,rfl,hl,hc⟩
      · omega
      obtain ⟨c0,c1,c2,c3⟩:=hc k hlt;obtain ⟨hh,hne,d,cd,d',cd',lo,hi,n1,n2,n3,n4⟩:=HR.out.now
      have HC:Hid (∀o:Obj,Calls Tryz.prog 161 #[.agg #[.int .i64 (A k).k,.int .i64 (A k).t,.int .i64 (A k).y,.int .i64 (A k).o],.pointer (some ⟨Bn,0,none⟩),.pointer (some ⟨Bh,0,none⟩)] (wr.alloc o) (ActR (egN E A k) (A k) d cd d' cd' Bn (wr.alloc o))):=fun o=>
        act9_any (egN E A k) (A k) d cd d' cd' Bn Bh _ (eF_eg H0.out k) ((n2.below (below_new _ o)).at) (n1.below (below_new _ o)) (cell_alloc hh o) hne
      have HN:Hid (OwnE2 wr lo hi d d' (egN E A k)∧(Bn<lo∨hi≤Bn)∧∀q',v.ownBlock=some q'→q'<lo∨hi≤q'):=⟨n2,n3,n4⟩;clear hc hh hne n1 n2 n3 n4 HS;go_wp2_with fail;refine (HC.out _).mono ?_;rintro e w2 ⟨la,lc,x,cx,x',cx',rfl,a1,a2,a4,a3⟩;have HB1:Hid (Writes Bn (Bn+1) (wr.alloc (.cells #[.int .i64 (A k).k,.int .i64 (A k).t,.int .i64 (A k).y,.int .i64 (A k).o] 50)) w2):=a1;have HB2:Hid (Box4f w2 Bn (.int .i64 (egN E A (k+1)).nx) (.int .i64 (egN E A (k+1)).ck) (.slice x (egN E A (k+1)).p cx) (.slice x' (egN E A (k+1)).q cx')):=a2;have HB3:Hid ((∃lo hi,(wr.alloc (.cells #[.int .i64 (A k).k,.int .i64 (A k).t,.int .i64 (A k).y,.int .i64 (A k).o] 50)).heap.size≤lo∧hi≤w2.heap.size∧OwnE2 w2 lo hi x x' (egN E A (k+1)))∨(egN E A (k+1)=egN E A k∧x=d∧cx=cd∧x'=d'∧cx'=cd')):=a3;have hzr:W.heap.size+1≤wr.heap.size:=World.block_lt_of_cell? wr _ HR.out.rb.1.1;have hzb:=HR.out.hBn;have HGR:Hid (∀o:Obj,GrRp (W.heap.size+1) wr.heap.size (w2.alloc o) v k (rpA E A)):=fun o=>((HR.out.gr.below (below_new wr _)).writes a1 (.inl (by omega))).below (below_new w2 o);rw [World.size_alloc] at a4;have HO:Hid (∀o:Obj,Own (w2.alloc o) (wr.heap.size+1) w2.heap.size la (rpA E A k).cn (rpA E A k).cK (rpA E A k).cV):=fun o=>a4.below (below_new w2 o);have hk5:k≤100000:=(by omega);have HL:Hid (CRp (w2.alloc (.cells #[.int .i64 (rpA E A k).cd,.int .i64 (rpA E A k).vl,.slice la (rpA E A k).cn lc] 46)) w2.heap.size 0 (rpA E A k) la lc):=lit_rp w2 (rpA E A k) la lc;clear a1 a2 a3 a4 HC c0 c1 c2 c3;go_wp2_with (at_builtin;refine wpList_grRp _ rfl (.tmp 18) (.tmp 22) rfl (W.heap.size+1) wr.heap.size v k (rpA E A) rfl (HGR.out _) w2.heap.size 0 1 (rpA E A k) la lc (wr.heap.size+1) w2.heap.size rfl HL.out (.inr ⟨by omega,(below_new w2 _).size⟩) (by omega) trivial (HO.out _) hk5 ?_);intro g cap' w3 hgr hg hl;have HR3:Hid (RuI W w3 Bn Bh E A (.slice (some ⟨g,0,none⟩) (k+1) cap') (k+1)):=HR.out.step (below_new wr _) HN.out.1 HN.out.2.1 HN.out.2.2 HB1.out HB2.out HB3.out (below_new w2 _) hg (by rw [World.size_alloc];exact hl) hgr;clear hgr hg hl HGR HO HL HB1 HB2 HB3 HN HR;go_wp2_with fail;go_roundw
      case rel=>exact ⟨k+1,_,hlt,by go_num,rfl,HR3⟩
      case measure=>simp [Go.RowKit.intOf];omega
    · have hkn:k=m:=by omega
      subst hkn;have hnl:¬((k:Int)<(k:Int)):=(by omega);obtain ⟨va,vc,rfl,-⟩:=HR.out.gr.own
      have HF:Hid (∀w7,Writes W.heap.size (W.heap.size+1) wr w7→RepR 0 k (rpA E A) Bn W (.returned (.agg #[.int .i64 0,.slice va k vc])) w7):=fun w7 hw=>by
        have h9:=HR.out.fin hw;exact ⟨va,vc,rfl,h9.1,h9.2⟩
      obtain ⟨⟨r0,r1⟩,rf⟩:=HR.out.rb;clear HR HS HA;go_wp2_with fail;refine bodyPost_ret (v:=.agg #[.int .i64 0,.slice va k vc]) (by simp [results,Tryz.results160,go_sem, *]) rfl ?_;refine HF.out _ ?_;exact wr2 _ _ _ _
end Go.Proofs.YtjdodbiphijjgaaGreat
