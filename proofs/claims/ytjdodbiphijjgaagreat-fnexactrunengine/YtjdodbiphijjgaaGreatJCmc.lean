import Derived.Test.YtjdodbiphijjgaaGreatJNa
import Derived.Test.YtjdodbiphijjgaaGreatJCb
import Derived.Test.YtjdodbiphijjgaaGreatJNb
import Derived.Test.YtjdodbiphijjgaaGreatJGg
import Derived.Test.YtjdodbiphijjgaaGreatJVc
import Derived.Test.YtjdodbiphijjgaaGreatJVj
namespace Go.Proofs.YtjdodbiphijjgaaGreat
open Go.RowKit Go.Deep
set_option linter.unusedVariables false
set_option maxRecDepth 20000
open Go.ChangeShapes Go.WideShapes Go.ChangeAt Go.RowKit Go.Deep Go.Joins
theorem idn_pos {E:En} (h:eF E=0) {j:Nat} (hj:j<E.p):(E.T j).id≠0:=by
  have hi:=(tF_good ((eF_good h).2.2.1 j hj)).1;unfold tIn at hi;simp only [Bool.and_eq_true] at hi;have a1:=inB_iff.1 hi.1.1.1;omega
set_option maxHeartbeats 16000000 in
theorem specCt_any (E:En) (a:Option Addr) (cap:Nat) (a':Option Addr) (cap':Nat) (id:Int) (w:World) (hs:SmallE E) (h:EngAt w a a' E) :
    Calls Tryz.prog 137 #[.agg #[.int .i64 E.nx,.int .i64 E.ck,.slice a E.p cap,.slice a' E.q cap'],.int .i64 id] w (ERes (ctC E id) (ctV E id) (ctE E id) w):=by
  have HXA:Hid (EngAt w a a' E):=h;have HS:Hid (SmallE E):=hs;clear h hs
  have HBX:Hid (∀o1 o2:Obj,o1=.cells #[.int .i64 E.nx,.int .i64 E.ck,.slice a E.p cap,.slice a' E.q cap'] 30→o2=.cells #[.int .i64 0,.int .i64 0,.int .i64 0,.int .i64 0,.slice none 0 0,.slice none 0 0] 32→
      Box4 ((w.alloc o1).alloc o2) w.heap.size (.int .i64 E.nx) (.int .i64 E.ck) (.slice a E.p cap) (.slice a' E.q cap')∧Box6 ((w.alloc o1).alloc o2) (w.heap.size+1) (.int .i64 0) (.int .i64 0) (.int .i64 0) (.int .i64 0) (.slice none 0 0) (.slice none 0 0)∧(∀i,((w.alloc o1).alloc o2).frozen? ⟨w.heap.size+1,i,none⟩=false)∧Below w.heap.size w ((w.alloc o1).alloc o2)∧((w.alloc o1).alloc o2).heap.size=w.heap.size+2):=by
    rintro o1 o2 rfl rfl;exact ⟨(Box4.new w _ _ _ _ _).alloc _,by simp [Box6,go_sem],fun i=>by simp [go_sem],((Below.refl _ _).alloc (Nat.le_refl _) _).alloc (by simp) _,by simp⟩
  go_enter Tryz.func137,Tryz.ntmps137;go_wp2_with fail;obtain ⟨hb4,hb2,hbf,hbw,hbs⟩:=HBX.out _ _ rfl rfl;refine (l6Asked_any E w.heap.size a cap a' cap' id _ HS.out ⟨hb4,HXA.out.below hbw⟩).mono ?_;rintro e W ⟨rfl,hb1⟩;have HB4:Hid (Box4 W w.heap.size (.int .i64 E.nx) (.int .i64 E.ck) (.slice a E.p cap) (.slice a' E.q cap')):=hb4.below hb1;have HR6:Hid (Box6 W (w.heap.size+1) (.int .i64 0) (.int .i64 0) (.int .i64 0) (.int .i64 0) (.slice none 0 0) (.slice none 0 0)):=hb2.below hb1;have HRF:Hid (∀i,W.frozen? ⟨w.heap.size+1,i,none⟩=false):=fun i=>((bcell2 hb1).2 _ _ (by rw [hbs];omega)).trans (hbf i);have HBW:Hid (Below w.heap.size w W):=below_then hbw hb1;have hs1:w.heap.size+2≤W.heap.size:=(by have:=hb1.size;rw [hbs] at this;exact this);clear hb1 hb4 hb2 hbf hbw hbs HBX
  by_cases hc:askC E id=0
  case neg=>
    have HF:Hid (∀w7,Below w.heap.size w w7→ERes (ctC E id) (ctV E id) (ctE E id) w (.returned (.agg #[.int .i64 (askC E id),.int .i64 0,.int .i64 0,.int .i64 0,.slice none 0 0,.slice none 0 0])) w7):=fun w7 hb=>by
      rw [(ct_bad hc).1,(ct_bad hc).2.1,(ct_bad hc).2.2];exact eres_bad hb
    have hc2:(askC E id != 0)=true:=(by simp [hc]);have HBK:=HBW;have HRK:=HR6;have HRKF:=HRF;clear hc;generalize askC E id=uu at *;generalize askP E id=up at *;go_wp2_with fail;refine (l6Bad_any uu _).mono ?_;rintro e w9 ⟨rfl,hb9⟩;have HB9:Hid (Below w.heap.size w w9):=below_then HBK.out hb9;obtain ⟨r0,r1,r2,r3,r4,r5⟩:=HRK.out.below hb9;have rf:∀i,w9.frozen? ⟨w.heap.size+1,i,none⟩=false:=fun i=>((bcell2 hb9).2 _ _ (by omega)).trans (HRKF.out i);clear hb9;go_wp2_with fail;refine bodyPost_ret (v:=.agg #[.int .i64 uu,.int .i64 0,.int .i64 0,.int .i64 0,.slice none 0 0,.slice none 0 0]) (by simp [results,Tryz.results137,go_sem, *]) rfl ?_;refine HF.out _ ?_
    repeat (first | with_reducible exact HB9.out | with_reducible refine Below.setCell ?_ (by first | omega | (simp <;> omega)) _)
  obtain ⟨h0,j,hj,hp,hid⟩:=ask_open hc;have HEX:Hid (EngAt W a a' E):=HXA.out.below HBW.out;have h32:=(eF_pq h0).2;have hp20:=(eF_pq h0).1;have HIDN:Hid (id≠0):=(by rw [←hid];exact idn_pos h0 hj);have HU60:Hid (∀i,i<E.p→(E.T i).n≤60):=undos60 h0;have HR12:Hid (∀i,i<E.q→(E.R i).n≤12):=rows12 h0;have hck:=(eF_good h0).2.1;have hj1:(j:Int)<(E.p:Int):=(by omega);have hj0:(0:Int)≤(j:Int):=(by omega);obtain ⟨b0,b1,b2,b3⟩:=HB4.out;have HHC:Hid (askC E id=0):=hc;have HHP:Hid (askP E id=(j:Int)):=hp;rw [hc,hp];clear hc hp h0;go_wp2_with fail;refine (l6Copy_any E a cap a' cap' W hp20 h32 HU60.out HR12.out HEX.out).mono ?_;rintro e w2 ⟨v,v',b0',M,rfl,hb2,hb0,hM,hgt,hgr⟩;obtain ⟨va,vc,rfl,-,hOT⟩:=hgt.own;obtain ⟨va',vc',rfl,-,hOR⟩:=hgr.own;obtain ⟨W3,hW3⟩:∃x,x=w2.alloc (.cells #[.int .i64 E.nx,.int .i64 E.ck,.slice va E.p vc,.slice va' E.q vc'] 30):=⟨_,rfl⟩;have HB3:Hid (Below W.heap.size W W3):=(by rw [hW3];exact below_then hb2 (below_new _ _));have hz3:W3.heap.size=w2.heap.size+1:=(by rw [hW3];exact World.size_alloc _ _);have HC3:Hid (Box4 W3 w2.heap.size (.int .i64 E.nx) (.int .i64 E.ck) (.slice va E.p vc) (.slice va' E.q vc')):=(by rw [hW3];exact Box4.new _ _ _ _ _ _)
  have HF3:Hid (∀i,W3.frozen? ⟨w2.heap.size,i,none⟩=false):=fun i=>by rw [hW3];simp [go_sem]
  have HT3:Hid (OwnTx W3 b0' M va E.p E.T):=(by rw [hW3];exact hOT.below (below_new _ _));have HO3:Hid (OwnRw W3 M w2.heap.size va' E.q E.R):=(by rw [hW3];exact hOR.below (below_new _ _));have hs2:=hb2.size;have hMz:M≤w2.heap.size:=hOT.1;clear hb2 hgt hgr hOT hOR;obtain ⟨-,h1 | ⟨tb,toff,rfl,ht1,ht2,htf,l,hh,hd,hc⟩⟩:=HT3.out
  · omega
  obtain ⟨-,-,ui,uc,⟨y0,y1,y2,y3,y4⟩,-,-⟩:=hc j hj;clear hc hd b0 b1 b2 b3;go_upto_region 5 with fail;rw [←hW3];clear hW3;have HCW:Hid (Box4 W3 w.heap.size (.int .i64 E.nx) (.int .i64 E.ck) (.slice a E.p cap) (.slice a' E.q cap')):=HB4.out.below HB3.out;obtain ⟨b0,b1,b2,b3⟩:=HCW.out;obtain ⟨c0,c1,c2,c3⟩:=HC3.out;have cf:=HF3.out
  by_cases hfull:0<(E.T j).n∧E.ck=1000000
  · have HF:Hid (∀w7,Below w.heap.size w w7→ERes (ctC E id) (ctV E id) (ctE E id) w (.returned (.agg #[.int .i64 3,.int .i64 0,.int .i64 0,.int .i64 0,.slice none 0 0,.slice none 0 0])) w7):=fun w7 hb=>by
      have e:=ct_full HHC.out HHP.out hfull.1 hfull.2;rw [e.1,e.2.1,e.2.2];exact eres_bad hb
    have hn0:(0:Int)<((E.T j).n:Int):=(by omega);have hck2:(E.ck == 1000000)=true:=(by simp [hfull.2]);have HBK:Hid (Below w.heap.size w W3):=below_then HBW.out HB3.out;have HRK:Hid (Box6 W3 (w.heap.size+1) (.int .i64 0) (.int .i64 0) (.int .i64 0) (.int .i64 0) (.slice none 0 0) (.slice none 0 0)):=HR6.out.below HB3.out;have HRKF:Hid (∀i,W3.frozen? ⟨w.heap.size+1,i,none⟩=false):=fun i=>((bcell2 HB3.out).2 _ _ (by omega)).trans (HRF.out i);clear hfull;go_wp2_with fail;refine (l6Bad_any 3 _).mono ?_;rintro e w9 ⟨rfl,hb9⟩;have HB9:Hid (Below w.heap.size w w9):=below_then HBK.out hb9;obtain ⟨r0,r1,r2,r3,r4,r5⟩:=HRK.out.below hb9;have rf:∀i,w9.frozen? ⟨w.heap.size+1,i,none⟩=false:=fun i=>((bcell2 hb9).2 _ _ (by omega)).trans (HRKF.out i);clear hb9;go_wp2_with fail;refine bodyPost_ret (v:=.agg #[.int .i64 3,.int .i64 0,.int .i64 0,.int .i64 0,.slice none 0 0,.slice none 0 0]) (by simp [results,Tryz.results137,go_sem, *]) rfl ?_;refine HF.out _ ?_
    repeat (first | with_reducible exact HB9.out | with_reducible refine Below.setCell ?_ (by first | omega | (simp <;> omega)) _)
  by_cases hn:0<(E.T j).n
  · have hk:E.ck≠1000000:=fun e=>hfull ⟨hn,e⟩;have hn0:(0:Int)<((E.T j).n:Int):=(by omega);have hck2:(E.ck == 1000000)=false:=(by simp [hk]);have HE:Hid (ctC E id=0∧ctV E id=E.ck+1∧ctE E id=cmY E j):=ct_yes HHC.out HHP.out hn hk;have hwrap:IntKind.i64.wrap (E.ck+1)=E.ck+1:=(by rw [IntKind.wrap_i64];omega);clear hfull hk;obtain ⟨S3,hS3⟩:∃x,x=W3.setCell ⟨w2.heap.size,1,none⟩ (.int .i64 (E.ck+1)):=⟨_,rfl⟩;have hw3:Writes w2.heap.size (w2.heap.size+1) W3 S3:=(by rw [hS3];exact Writes.setCell (Writes.refl _ _ _) (p:=⟨w2.heap.size,1,none⟩) (Nat.le_refl _) (Nat.lt_succ_self _) _);have hz4:S3.heap.size=w2.heap.size+1:=(by rw [hS3,←hz3];simp [World.setCell])
    have HC4:Hid (Box4 S3 w2.heap.size (.int .i64 E.nx) (.int .i64 (E.ck+1)) (.slice (some ⟨tb,toff,none⟩) E.p vc) (.slice va' E.q vc')):=by
      rw [hS3];exact ⟨(setO (by omega)).trans c0,setS c1,(setO (by omega)).trans c2,(setO (by omega)).trans c3⟩
    have z3':S3.cell? ⟨tb,toff+j*5+3,none⟩=some (.int .i64 (E.T j).dn):=(hw3.cell (by omega) (.inl (by omega)) _).trans y3
    have hfz':∀i,S3.frozen? ⟨tb,i,none⟩=false:=fun i=>by rw [hS3,World.frozen?_setCell];exact htf i
    have HT4:Hid (OwnTx S3 b0' M (some ⟨tb,toff,none⟩) E.p E.T):=HT3.out.writes hw3 (.inl hMz);have HO4:Hid (OwnRw S3 M w2.heap.size va' E.q E.R):=HO3.out.writes hw3 (.inl (Nat.le_refl _));have HBB4:Hid (Below W.heap.size W S3):=Writes.below HB3.out hw3 hs2;go_upto_region 10 with fail;rw [←hS3];clear hS3 hw3 y0 y1 y2 y3 y4 htf b0 b1 b2 b3 c0 c1 c2 c3 cf HT3 HO3 HB3 HC3 HF3 hz3;obtain ⟨c0,c1,c2,c3⟩:=HC4.out;obtain ⟨S4,hS4⟩:∃x,x=S3.setCell ⟨tb,toff+j*5+3,none⟩ (.int .i64 (E.ck+1)):=⟨_,rfl⟩;have hw4:Writes tb (tb+1) S3 S4:=(by rw [hS4];exact Writes.setCell (Writes.refl _ _ _) (p:=⟨tb,toff+j*5+3,none⟩) (Nat.le_refl _) (Nat.lt_succ_self _) _);have hz5:S4.heap.size=w2.heap.size+1:=(by rw [hS4,←hz4];simp [World.setCell]);have HC5:Hid (Box4 S4 w2.heap.size (.int .i64 E.nx) (.int .i64 (E.ck+1)) (.slice (some ⟨tb,toff,none⟩) E.p vc) (.slice va' E.q vc')):=HC4.out.writes hw4 (.inr (by omega))
    have HT5:Hid (OwnTx S4 b0' M (some ⟨tb,toff,none⟩) E.p (upf E.T j ⟨(E.T j).id,(E.T j).am,(E.T j).st,E.ck+1,(E.T j).n,(E.T j).U⟩)):=by
      have g:∀o',o'≠toff+j*5+3→S4.cell? ⟨tb,o',none⟩=S3.cell? ⟨tb,o',none⟩:=fun o' ho=>by rw [hS4,setO (by omega)]
      exact HT4.out.num hj hw4 (fun o' ho=>g o' (by omega)) (fun i=>by rw [hS4,World.frozen?_setCell]) (fun ui uc ⟨q0,q1,q2,q3,q4⟩=>⟨(g _ (by omega)).trans q0,(g _ (by omega)).trans q1,(g _ (by omega)).trans q2,by rw [hS4];exact setS q3,(g _ (by omega)).trans q4⟩) rfl rfl
    have HO5:Hid (OwnRw S4 M w2.heap.size va' E.q (cmk E.R id (E.ck+1) 0)):=(by rw [cmk_zero];exact HO4.out.writes hw4 (.inr (by omega)));have HBB5:Hid (Below W.heap.size W S4):=Writes.below HBB4.out hw4 (by omega);go_upto_region 11 with fail;rw [←hS4];clear hS4 hw4 z3' hfz' c0 c1 c2 c3 HT4 HO4 HBB4 HC4 hz4;go_wp2_with fail;go_loopw [9] (fun i wr=>∃k:Nat,k≤E.q∧i=.int .i64 k∧Hid (Writes M w2.heap.size S4 wr)∧Hid (OwnRw wr M w2.heap.size va' E.q (cmk E.R id (E.ck+1) k))) (fun i _=>E.q-(intOf i).toNat)
    case atStart=>exact ⟨0,Nat.zero_le _,rfl,Writes.refl _ _ _,HO5⟩
    case round=>
      clear HO5;obtain ⟨k,hk,rfl,HW,HO⟩:=hrel;have hszw:=HW.out.size;have HC6:Hid (Box4 wr w2.heap.size (.int .i64 E.nx) (.int .i64 (E.ck+1)) (.slice (some ⟨tb,toff,none⟩) E.p vc) (.slice va' E.q vc')):=HC5.out.writes HW.out (.inr (Nat.le_refl _));obtain ⟨c0,c1,c2,c3⟩:=HC6.out
      by_cases hlt:k<E.q
      · have hlt':(k:Int)<(E.q:Int):=by omega
        have hk0:(0:Int)≤(k:Int):=(by omega);obtain ⟨b,off,ai,ci,l,hh,rfl,hlo,hhi,hC,hci,hlr,hown,hput⟩:=HO.out.chain hlt;rw [cmk_at] at hC hci hown hput
        have HV:Hid (VersAt wr ai (E.R k).n (E.R k).U):=hown.at
        have HOW:Hid (Own4 wr l hh ai (E.R k).n (E.R k).U):=hown;have HPT:Hid (∀U w1,Writes l hh wr w1→Own4 w1 l hh ai (E.R k).n U→OwnRw w1 M w2.heap.size (some ⟨b,off,none⟩) E.q (upf (cmk E.R id (E.ck+1) k) k ⟨(E.R k).key,(E.R k).n,U⟩)):=hput;obtain ⟨x0,x1⟩:=hC;clear hown hput
        obtain hf | hf:=bool_or2 (fob (E.R k).n (E.R k).U id)
        · have hp:0<(E.R k).n:=by
            have hf2:=hf;unfold fob at hf2;simp only [Bool.and_eq_true,decide_eq_true_eq] at hf2;exact hf2.1
          have hp1:(0:Int)<((E.R k).n:Int):=(by omega);have hwq:(wrt (E.R k).n (E.R k).U == id)=true:=(by rw [←fob_wrt HIDN.out];exact hf);have hcm:cmR (E.R k) id (E.ck+1)=⟨(E.R k).key,(E.R k).n,coS (E.R k).U (E.ck+1)⟩:=if_pos hf;obtain ⟨ho0,ho1 | ⟨vb,vo,rfl,hv1,hv2,hrow⟩⟩:=HOW.out
          · omega
          obtain ⟨d0,d1,d2,d3⟩:=hrow.1 0 hp;have df:=hrow.2;rw [Nat.zero_mul,Nat.add_zero] at d0 d1 d2 d3;have HG2:Hid (∀wy,wy=wr∨wy=wr.drew→True):=fun _ _=>trivial
          have HO2:Hid (OwnRw (wr.setCell ⟨vb,vo+1,none⟩ (.int .i64 (E.ck+1))) M w2.heap.size (some ⟨b,off,none⟩) E.q (cmk E.R id (E.ck+1) (k+1))):=by
            have hws:Writes l hh wr (wr.setCell ⟨vb,vo+1,none⟩ (.int .i64 (E.ck+1))):=Writes.setCell (Writes.refl _ _ _) (p:=⟨vb,vo+1,none⟩) hv1 hv2 _;have h:=HPT.out (coS (E.R k).U (E.ck+1)) _ hws ⟨Nat.le_trans ho0 hws.size,.inr ⟨vb,vo,rfl,hv1,hv2,row4_at hp hrow⟩⟩;rw [←hcm] at h;exact h.congr fun i _=>cmk_step E.R id (E.ck+1) k i
          have HW2:Hid (Writes M w2.heap.size S4 (wr.setCell ⟨vb,vo+1,none⟩ (.int .i64 (E.ck+1)))):=HW.out.setCell (p:=⟨vb,vo+1,none⟩) (by show M≤vb;omega) (by show vb<w2.heap.size;omega) _;have hbd:Below wr.heap.size wr wr.drew:=(Below.refl _ _).drew;have hrowd:Row4 wr.drew vb vo (E.R k).n (E.R k).U:=⟨fun i hi=>(hrow.1 i hi).block (hbd.block _ (by omega)),fun i=>((bcell2 hbd).2 _ _ (by omega)).trans (df i)⟩
          have HO2d:Hid (OwnRw (wr.drew.setCell ⟨vb,vo+1,none⟩ (.int .i64 (E.ck+1))) M w2.heap.size (some ⟨b,off,none⟩) E.q (cmk E.R id (E.ck+1) (k+1))):=by
            have hws:Writes l hh wr (wr.drew.setCell ⟨vb,vo+1,none⟩ (.int .i64 (E.ck+1))):=Writes.setCell (Writes.refl _ _ _).drew1 (p:=⟨vb,vo+1,none⟩) hv1 hv2 _;have h:=HPT.out (coS (E.R k).U (E.ck+1)) _ hws ⟨Nat.le_trans ho0 hws.size,.inr ⟨vb,vo,rfl,hv1,hv2,row4_at hp hrowd⟩⟩;rw [←hcm] at h;exact h.congr fun i _=>cmk_step E.R id (E.ck+1) k i
          have HW2d:Hid (Writes M w2.heap.size S4 (wr.drew.setCell ⟨vb,vo+1,none⟩ (.int .i64 (E.ck+1)))):=HW.out.drew1.setCell (p:=⟨vb,vo+1,none⟩) (by show M≤vb;omega) (by show vb<w2.heap.size;omega) _;clear hbd hrowd;have HLT:Hid (k<E.q):=hlt;generalize hwt:wrt (E.R k).n (E.R k).U=wt at *;clear hf hcm hrow HG2 HOW HPT HW HO HC6 HC5 HT5 HBB5;go_upto_region 15 with (first | (go_at_call 113;refine (l5Writer_any (E.R k).n (E.R k).U _ ci _ HV.out).mono ?_;rintro e w' ⟨rfl,hw'⟩;rw [hw',hwt];clear hw'));go_region
          all_goals
            go_wp2_with fail;go_roundw
            case rel=>first | exact ⟨k+1,HLT.out,by go_num,HW2,HO2⟩ | exact ⟨k+1,HLT.out,by go_num,HW2d,HO2d⟩
            case measure=>simp [intOf];omega
        · have HO2:Hid (OwnRw wr M w2.heap.size (some ⟨b,off,none⟩) E.q (cmk E.R id (E.ck+1) (k+1))):=HO.out.congr fun i _=>cmk_skip hf i;have hwq:(wrt (E.R k).n (E.R k).U == id)=false:=(by rw [←fob_wrt HIDN.out];exact hf);have HLT:Hid (k<E.q):=hlt;generalize hwt:wrt (E.R k).n (E.R k).U=wt at *;clear hf HOW HPT HO HC6 HC5 HT5 HBB5;go_wp2_with (first | (go_at_call 113;refine (l5Writer_any (E.R k).n (E.R k).U _ ci _ HV.out).mono ?_;rintro e w' ⟨rfl,hw'⟩;rw [hw',hwt];clear hw'));go_roundw
          case rel=>exact ⟨k+1,HLT.out,by go_num,HW,HO2⟩
          case measure=>simp [intOf];omega
      · have hkn:k=E.q:=by omega
        have hnl:¬((k:Int)<(E.q:Int)):=(by omega)
        have HO6:Hid (OwnRw wr M w2.heap.size va' (cmY E j).q (cmY E j).R):=by
          show OwnRw wr M w2.heap.size va' E.q (cmk E.R (E.T j).id (E.ck+1) E.q);rw [hid,←hkn];have h:=HO.out;rw [←hkn] at h;exact h
        have HT6:Hid (OwnTx wr b0' M (some ⟨tb,toff,none⟩) E.p (upf E.T j ⟨(E.T j).id,(E.T j).am,(E.T j).st,E.ck+1,(E.T j).n,(E.T j).U⟩)):=HT5.out.writes HW.out (.inl (Nat.le_refl _));have HBB6:Hid (Below W.heap.size W wr):=Writes.below HBB5.out HW.out (by omega);clear HO HW HT5 HBB5 HC5 hkn
        obtain ⟨ui2,uc2,⟨q0,q1,q2,q3,q4⟩,htf⟩:∃ui uc,CTx wr tb (toff+j*5) ⟨(E.T j).id,(E.T j).am,(E.T j).st,E.ck+1,(E.T j).n,(E.T j).U⟩ ui uc∧∀i,wr.frozen? ⟨tb,i,none⟩=false:=by
          obtain ⟨-,k1 | ⟨tb2,toff2,ha,-,-,hf2,l2,hh2,-,hc2⟩⟩:=HT6.out
          · omega
          simp only [Option.some.injEq,Addr.mk.injEq,and_true] at ha;obtain ⟨rfl,rfl⟩:=ha;obtain ⟨-,-,ui2,uc2,hq,-,hq2⟩:=hc2 j hj;exact ⟨ui2,uc2,by first | exact hq | (rw [upf_eq] at hq;exact hq),hf2⟩
        obtain ⟨S7,hS7⟩:∃x,x=(wr.setCell ⟨tb,toff+j*5+2,none⟩ (.int .i64 2)).setCell ⟨tb,toff+j*5+4,none⟩ (.slice none 0 0):=⟨_,rfl⟩;have q4':(wr.setCell ⟨tb,toff+j*5+2,none⟩ (.int .i64 2)).cell? ⟨tb,toff+j*5+4,none⟩=some (.slice ui2 (E.T j).n uc2):=(setO (by omega)).trans q4
        have hw7:Writes tb (tb+1) wr S7:=by
          rw [hS7];exact Writes.setCell (Writes.setCell (Writes.refl _ _ _) (p:=⟨tb,toff+j*5+2,none⟩) (Nat.le_refl _) (Nat.lt_succ_self _) _) (p:=⟨tb,toff+j*5+4,none⟩) (Nat.le_refl _) (Nat.lt_succ_self _) _
        have hz7:S7.heap.size=wr.heap.size:=(by rw [hS7];simp [World.setCell]);have z7:S7.cell? ⟨tb,toff+j*5+3,none⟩=some (.int .i64 (E.ck+1)):=(by rw [hS7,setO (by omega),setO (by omega)];exact q3)
        have HTz:Hid (OwnTx S7 b0' M (some ⟨tb,toff,none⟩) (cmY E j).p (cmY E j).T):=by
          refine (HT6.out.put (t:=⟨(E.T j).id,(E.T j).am,2,E.ck+1,0,(E.T j).U⟩) (ui:=none) (uc:=0) hj hw7 (fun o' ho=>by rw [hS7,setO (by omega),setO (by omega)]) (fun i=>by rw [hS7,World.frozen?_setCell,World.frozen?_setCell]) ⟨?_,?_,?_,z7,?_⟩ rfl).congr fun i hi=>?_
          · rw [hS7,setO (by omega),setO (by omega)];exact q0
          · rw [hS7,setO (by omega),setO (by omega)];exact q1
          · rw [hS7,setO (by omega)];exact setS q2
          · rw [hS7];exact setS q4'
          · show upf _ j _ i=upf E.T j _ i
            by_cases e:i=j
            · subst e;simp only [upf_eq]
            · simp only [upf_ne _ _ e]
        have HOz:Hid (OwnRw S7 M w2.heap.size va' (cmY E j).q (cmY E j).R):=HO6.out.writes hw7 (.inr (by omega));have HBz:Hid (Below W.heap.size W S7):=Writes.below HBB6.out hw7 (by omega);have HCz:Hid (Box4 S7 w2.heap.size (.int .i64 E.nx) (.int .i64 (E.ck+1)) (.slice (some ⟨tb,toff,none⟩) E.p vc) (.slice va' E.q vc')):=HC6.out.writes hw7 (.inr (by omega));clear HCW;go_upto_region 18 with fail;rw [←hS7];clear hS7 hw7 q0 q1 q2 q3 q4 q4' htf;obtain ⟨c0,c1,c2,c3⟩:=HCz.out;obtain ⟨r0,r1,r2,r3,r4,r5⟩:=HR6.out.below HBz.out;have rf:∀i,S7.frozen? ⟨w.heap.size+1,i,none⟩=false:=fun i=>((bcell2 HBz.out).2 _ _ (by omega)).trans (HRF.out i)
        have HF:Hid (∀w7,Writes (w.heap.size+1) (w.heap.size+2) S7 w7→w7.heap.size=S7.heap.size→ERes (ctC E id) (ctV E id) (ctE E id) w (.returned (.agg #[.int .i64 0,.int .i64 (E.ck+1),.int .i64 E.nx,.int .i64 (E.ck+1),.slice (some ⟨tb,toff,none⟩) E.p vc,.slice va' E.q vc'])) w7):=fun w7 hw hs7=>by
          rw [HE.out.1,HE.out.2.1,HE.out.2.2];exact eres_own (E':=cmY E j) (below_then HBW.out HBz.out) (by omega) (by omega) hM hMz (by omega) (by omega) HTz.out HOz.out hw hs7
        clear HTz HOz HCz;go_region
        all_goals
          go_wp2_with fail;refine bodyPost_ret (v:=.agg #[.int .i64 0,.int .i64 (E.ck+1),.int .i64 E.nx,.int .i64 (E.ck+1),.slice (some ⟨tb,toff,none⟩) E.p vc,.slice va' E.q vc']) (by simp [results,Tryz.results137,go_sem, *]) rfl ?_;refine HF.out _ ?_ (by simp [World.setCell])
          repeat (first | with_reducible exact Writes.refl _ _ _ | with_reducible apply Writes.drew1 | with_reducible refine Writes.setCell ?_ (by first | omega | (simp <;> omega)) (by first | omega | (simp <;> omega)) _)
  · have hn0:¬((0:Int)<((E.T j).n:Int)):=by omega
    have HE:Hid (ctC E id=0∧ctV E id=(E.T j).dn∧ctE E id=cmN E j):=ct_no HHC.out HHP.out hn;have HO6:Hid (OwnRw W3 M w2.heap.size va' (cmN E j).q (cmN E j).R):=HO3;clear hfull y0 y1 y2 y3 htf
    obtain ⟨ui2,uc2,⟨q0,q1,q2,q3,q4⟩,htf⟩:∃ui uc,CTx W3 tb (toff+j*5) ⟨(E.T j).id,(E.T j).am,(E.T j).st,(E.T j).dn,(E.T j).n,(E.T j).U⟩ ui uc∧∀i,W3.frozen? ⟨tb,i,none⟩=false:=by
      obtain ⟨-,k1 | ⟨tb2,toff2,ha,-,-,hf2,l2,hh2,-,hc2⟩⟩:=HT3.out
      · omega
      simp only [Option.some.injEq,Addr.mk.injEq,and_true] at ha;obtain ⟨rfl,rfl⟩:=ha;obtain ⟨-,-,ui2,uc2,hq,-,hq2⟩:=hc2 j hj;exact ⟨ui2,uc2,by first | exact hq | (rw [upf_eq] at hq;exact hq),hf2⟩
    obtain ⟨S7,hS7⟩:∃x,x=(W3.setCell ⟨tb,toff+j*5+2,none⟩ (.int .i64 2)).setCell ⟨tb,toff+j*5+4,none⟩ (.slice none 0 0):=⟨_,rfl⟩;have q4':(W3.setCell ⟨tb,toff+j*5+2,none⟩ (.int .i64 2)).cell? ⟨tb,toff+j*5+4,none⟩=some (.slice ui2 (E.T j).n uc2):=(setO (by omega)).trans q4
    have hw7:Writes tb (tb+1) W3 S7:=by
      rw [hS7];exact Writes.setCell (Writes.setCell (Writes.refl _ _ _) (p:=⟨tb,toff+j*5+2,none⟩) (Nat.le_refl _) (Nat.lt_succ_self _) _) (p:=⟨tb,toff+j*5+4,none⟩) (Nat.le_refl _) (Nat.lt_succ_self _) _
    have hz7:S7.heap.size=W3.heap.size:=(by rw [hS7];simp [World.setCell]);have z7:S7.cell? ⟨tb,toff+j*5+3,none⟩=some (.int .i64 ((E.T j).dn)):=(by rw [hS7,setO (by omega),setO (by omega)];exact q3)
    have HTz:Hid (OwnTx S7 b0' M (some ⟨tb,toff,none⟩) (cmN E j).p (cmN E j).T):=by
      refine (HT3.out.put (t:=⟨(E.T j).id,(E.T j).am,2,(E.T j).dn,0,(E.T j).U⟩) (ui:=none) (uc:=0) hj hw7 (fun o' ho=>by rw [hS7,setO (by omega),setO (by omega)]) (fun i=>by rw [hS7,World.frozen?_setCell,World.frozen?_setCell]) ⟨?_,?_,?_,z7,?_⟩ rfl).congr fun i hi=>?_
      · rw [hS7,setO (by omega),setO (by omega)];exact q0
      · rw [hS7,setO (by omega),setO (by omega)];exact q1
      · rw [hS7,setO (by omega)];exact setS q2
      · rw [hS7];exact setS q4'
      · show upf _ j _ i=upf E.T j _ i
        by_cases e:i=j
        · subst e;simp only [upf_eq]
        · simp only [upf_ne _ _ e]
    have HOz:Hid (OwnRw S7 M w2.heap.size va' (cmN E j).q (cmN E j).R):=HO6.out.writes hw7 (.inr (by omega));have HBz:Hid (Below W.heap.size W S7):=Writes.below HB3.out hw7 (by omega);have HCz:Hid (Box4 S7 w2.heap.size (.int .i64 E.nx) (.int .i64 (E.ck)) (.slice (some ⟨tb,toff,none⟩) E.p vc) (.slice va' E.q vc')):=HC3.out.writes hw7 (.inr (by omega));clear HCW;go_upto_region 18 with fail;rw [←hS7];clear hS7 hw7 q0 q1 q2 q3 q4 q4' htf;obtain ⟨c0,c1,c2,c3⟩:=HCz.out;obtain ⟨r0,r1,r2,r3,r4,r5⟩:=HR6.out.below HBz.out;have rf:∀i,S7.frozen? ⟨w.heap.size+1,i,none⟩=false:=fun i=>((bcell2 HBz.out).2 _ _ (by omega)).trans (HRF.out i)
    have HF:Hid (∀w7,Writes (w.heap.size+1) (w.heap.size+2) S7 w7→w7.heap.size=S7.heap.size→ERes (ctC E id) (ctV E id) (ctE E id) w (.returned (.agg #[.int .i64 0,.int .i64 ((E.T j).dn),.int .i64 E.nx,.int .i64 (E.ck),.slice (some ⟨tb,toff,none⟩) E.p vc,.slice va' E.q vc'])) w7):=fun w7 hw hs7=>by
      rw [HE.out.1,HE.out.2.1,HE.out.2.2];exact eres_own (E':=cmN E j) (below_then HBW.out HBz.out) (by omega) (by omega) hM hMz (by omega) (by omega) HTz.out HOz.out hw hs7
    clear HTz HOz HCz;go_region
    all_goals
      go_wp2_with fail;refine bodyPost_ret (v:=.agg #[.int .i64 0,.int .i64 ((E.T j).dn),.int .i64 E.nx,.int .i64 (E.ck),.slice (some ⟨tb,toff,none⟩) E.p vc,.slice va' E.q vc']) (by simp [results,Tryz.results137,go_sem, *]) rfl ?_;refine HF.out _ ?_ (by simp [World.setCell])
      repeat (first | with_reducible exact Writes.refl _ _ _ | with_reducible apply Writes.drew1 | with_reducible refine Writes.setCell ?_ (by first | omega | (simp <;> omega)) (by first | omega | (simp <;> omega)) _)
structure WritesP (P:Nat→Prop) (w w':World):Prop where
  os:w'.os=w.os
  tape:w'.tape=w.tape
  output:w'.output=w.output
  size:w.heap.size≤w'.heap.size
  block:∀k,k<w.heap.size→¬P k→w'.heap[k]? = w.heap[k]?
theorem WritesP.refl (P:Nat→Prop) (w:World):WritesP P w w:=⟨rfl,rfl,rfl,Nat.le_refl _,fun _ _ _=>rfl⟩
theorem WritesP.trans {P:Nat→Prop} {a b c:World} (h:WritesP P a b) (k:WritesP P b c):WritesP P a c:=
  ⟨k.os.trans h.os,k.tape.trans h.tape,k.output.trans h.output,Nat.le_trans h.size k.size,fun q hq hn=>(k.block q (Nat.lt_of_lt_of_le hq h.size) hn).trans (h.block q hq hn)⟩
theorem WritesP.of {P:Nat→Prop} {lo hi:Nat} {w w':World} (h:Writes lo hi w w') (hp:∀x,lo≤x→x<hi→P x):WritesP P w w':=
  ⟨h.os,h.tape,h.output,h.size,fun q hq hn=>h.block q hq (by
    by_cases c:q<lo
    · exact .inl c
    · by_cases d:hi≤q
      · exact .inr d
      · exact absurd (hp q (by omega) (by omega)) hn)⟩
theorem WritesP.to {P:Nat→Prop} {lo hi:Nat} {w w':World} (h:WritesP P w w') (hp:∀x,P x→lo≤x∧x<hi):Writes lo hi w w':=
  ⟨h.os,h.tape,h.output,h.size,fun q hq hn=>h.block q hq fun c=>by have:=hp q c;omega⟩
def OwnTxP (w:World) (P:Nat→Prop) (a:Option Addr) (n:Nat) (T:Nat→Tx):Prop:=
  n=0∨∃b off,a=some ⟨b,off,none⟩∧P b∧b<w.heap.size∧(∀i,w.frozen? ⟨b,i,none⟩=false)∧∃l h:Nat→Nat,(∀i j,i<n→j<n→i≠j→h i≤l j∨h j≤l i)∧
    ∀i,i<n→(b<l i∨h i≤b)∧(∀x,l i≤x→x<h i→P x)∧∃ai ci,CTx w b (off+i*5) (T i) ai ci∧(T i).n≤ci∧OwnU w (l i) (h i) ai (T i).n (T i).U
theorem OwnTxP.at {w:World} {P:Nat→Prop} {a:Option Addr} {n:Nat} {T:Nat→Tx} (h:OwnTxP w P a n T):TxsAt w a n T:=by
  obtain h1 | ⟨b,off,ha,_,hl,_,l,h,_,hc⟩:=h
  · exact .inl h1
  · refine .inr ⟨b,off,ha,hl,fun i hi=>?_⟩;obtain ⟨_,_,ai,ci,k1,k2,k3⟩:=hc i hi;exact ⟨ai,ci,k1,k3.at,k2⟩
theorem OwnU_keepTx {w w':World} {l h:Nat} {a:Option Addr} {n:Nat} {U:Nat→Ud} (h0:OwnU w l h a n U) (hs:w.heap.size≤w'.heap.size) (hk:∀x,l≤x→x<h→x<w.heap.size→w'.heap[x]? = w.heap[x]?):OwnU w' l h a n U:=by
  obtain ⟨o0,o1 | ⟨b,off,rfl,p1,p2,p3⟩⟩:=h0
  · exact ⟨by omega,.inl o1⟩
  · have e:=hk b p1 p2 (by omega);exact ⟨by omega,.inr ⟨b,off,rfl,p1,p2,rowU_block p3 e⟩⟩
theorem OwnTxP.keep {w w':World} {P:Nat→Prop} {a:Option Addr} {n:Nat} {T:Nat→Tx} (h:OwnTxP w P a n T) (hs:w.heap.size≤w'.heap.size) (hk:∀x,P x→x<w.heap.size→w'.heap[x]? = w.heap[x]?):OwnTxP w' P a n T:=by
  obtain h1 | ⟨b,off,ha,hp,hl,hf,l,h,hj,hc⟩:=h
  · exact .inl h1
  · have e:=hk b hp hl;refine .inr ⟨b,off,ha,hp,Nat.lt_of_lt_of_le hl hs,fun i=>(World.frozen?_of_block (w:=w) (a:=⟨b,i,none⟩) e).trans (hf i),l,h,hj,fun i hi=>?_⟩;obtain ⟨k0,k1,ai,ci,k2,k3,k4⟩:=hc i hi;exact ⟨k0,k1,ai,ci,k2.block e,k3,OwnU_keepTx k4 hs fun x h1 h2 h3=>hk x (k1 x h1 h2) h3⟩
theorem OwnTx.toP {w:World} {lo hi:Nat} {a:Option Addr} {n:Nat} {T:Nat→Tx} (h:OwnTx w lo hi a n T):OwnTxP w (fun x=>lo≤x∧x<hi) a n T:=by
  obtain ⟨h0,h1 | ⟨b,off,ha,hlo,hl,hf,l,h,hj,hc⟩⟩:=h
  · exact .inl h1
  · refine .inr ⟨b,off,ha,⟨hlo,hl⟩,by omega,hf,l,h,hj,fun i hi=>?_⟩;obtain ⟨k0,k1,r⟩:=hc i hi;exact ⟨k0,fun x x1 x2=>by omega,r⟩
def OwnRwP (w:World) (P:Nat→Prop) (a:Option Addr) (n:Nat) (T:Nat→Rw):Prop:=
  n=0∨∃b off,a=some ⟨b,off,none⟩∧P b∧b<w.heap.size∧(∀i,w.frozen? ⟨b,i,none⟩=false)∧∃l h:Nat→Nat,(∀i j,i<n→j<n→i≠j→h i≤l j∨h j≤l i)∧
    ∀i,i<n→(b<l i∨h i≤b)∧(∀x,l i≤x→x<h i→P x)∧∃ai ci,CRw w b (off+i*2) (T i) ai ci∧(T i).n≤ci∧Own4 w (l i) (h i) ai (T i).n (T i).U
theorem OwnRwP.at {w:World} {P:Nat→Prop} {a:Option Addr} {n:Nat} {T:Nat→Rw} (h:OwnRwP w P a n T):RwsAt w a n T:=by
  obtain h1 | ⟨b,off,ha,_,hl,_,l,h,_,hc⟩:=h
  · exact .inl h1
  · refine .inr ⟨b,off,ha,hl,fun i hi=>?_⟩;obtain ⟨_,_,ai,ci,k1,k2,k3⟩:=hc i hi;exact ⟨ai,ci,k1,k3.at,k2⟩
theorem Own4_keepRw {w w':World} {l h:Nat} {a:Option Addr} {n:Nat} {U:Nat→Vr} (h0:Own4 w l h a n U) (hs:w.heap.size≤w'.heap.size) (hk:∀x,l≤x→x<h→x<w.heap.size→w'.heap[x]? = w.heap[x]?):Own4 w' l h a n U:=by
  obtain ⟨o0,o1 | ⟨b,off,rfl,p1,p2,p3⟩⟩:=h0
  · exact ⟨by omega,.inl o1⟩
  · have e:=hk b p1 p2 (by omega);exact ⟨by omega,.inr ⟨b,off,rfl,p1,p2,row4_block p3 e⟩⟩
theorem OwnRwP.keep {w w':World} {P:Nat→Prop} {a:Option Addr} {n:Nat} {T:Nat→Rw} (h:OwnRwP w P a n T) (hs:w.heap.size≤w'.heap.size) (hk:∀x,P x→x<w.heap.size→w'.heap[x]? = w.heap[x]?):OwnRwP w' P a n T:=by
  obtain h1 | ⟨b,off,ha,hp,hl,hf,l,h,hj,hc⟩:=h
  · exact .inl h1
  · have e:=hk b hp hl;refine .inr ⟨b,off,ha,hp,Nat.lt_of_lt_of_le hl hs,fun i=>(World.frozen?_of_block (w:=w) (a:=⟨b,i,none⟩) e).trans (hf i),l,h,hj,fun i hi=>?_⟩;obtain ⟨k0,k1,ai,ci,k2,k3,k4⟩:=hc i hi;exact ⟨k0,k1,ai,ci,k2.block e,k3,Own4_keepRw k4 hs fun x h1 h2 h3=>hk x (k1 x h1 h2) h3⟩
theorem OwnRwP.mono {w:World} {P P':Nat→Prop} {a:Option Addr} {n:Nat} {T:Nat→Rw} (h:OwnRwP w P a n T) (hp:∀x,P x→P' x):OwnRwP w P' a n T:=by
  obtain h1 | ⟨b,off,ha,h2,hl,hf,l,h,hj,hc⟩:=h
  · exact .inl h1
  · refine .inr ⟨b,off,ha,hp _ h2,hl,hf,l,h,hj,fun i hi=>?_⟩;obtain ⟨k0,k1,r⟩:=hc i hi;exact ⟨k0,fun x x1 x2=>hp x (k1 x x1 x2),r⟩
theorem OwnRw.toP {w:World} {lo hi:Nat} {a:Option Addr} {n:Nat} {T:Nat→Rw} (h:OwnRw w lo hi a n T):OwnRwP w (fun x=>lo≤x∧x<hi) a n T:=by
  obtain ⟨h0,h1 | ⟨b,off,ha,hlo,hl,hf,l,h,hj,hc⟩⟩:=h
  · exact .inl h1
  · refine .inr ⟨b,off,ha,⟨hlo,hl⟩,by omega,hf,l,h,hj,fun i hi=>?_⟩;obtain ⟨k0,k1,r⟩:=hc i hi;exact ⟨k0,fun x x1 x2=>by omega,r⟩
def OwnE2 (w:World) (lo hi:Nat) (a a':Option Addr) (E:En):Prop:=
  hi≤w.heap.size∧∃P Q:Nat→Prop,(∀x,P x→lo≤x∧x<hi)∧(∀x,Q x→lo≤x∧x<hi)∧(∀x,P x→¬Q x)∧OwnTxP w P a E.p E.T∧OwnRwP w Q a' E.q E.R
theorem OwnE2.at {w:World} {lo hi:Nat} {a a':Option Addr} {E:En} (h:OwnE2 w lo hi a a' E):EngAt w a a' E:=by
  obtain ⟨_,P,Q,_,_,_,hp,hl⟩:=h;exact ⟨hp.at,hl.at⟩
theorem OwnE2.writes {w w':World} {lo hi lo' hi':Nat} {a a':Option Addr} {E:En} (h:OwnE2 w lo hi a a' E) (hw:Writes lo' hi' w w') (hd:hi≤lo'∨hi'≤lo):OwnE2 w' lo hi a a' E:=by
  obtain ⟨h0,P,Q,k1,k2,k3,hp,hl⟩:=h;exact ⟨Nat.le_trans h0 hw.size,P,Q,k1,k2,k3,hp.keep hw.size fun x hx h1=>hw.block x h1 (by have:=k1 x hx;omega),hl.keep hw.size fun x hx h1=>hw.block x h1 (by have:=k2 x hx;omega)⟩
theorem OwnE2.below {w w':World} {lo hi:Nat} {a a':Option Addr} {E:En} (h:OwnE2 w lo hi a a' E) (hb:Below w.heap.size w w'):OwnE2 w' lo hi a a' E:=
  h.writes (Writes.of_below (lo:=hi) (hi:=hi) hb) (.inl (Nat.le_refl _))
theorem OwnE2.wide {w:World} {lo hi lo' hi':Nat} {a a':Option Addr} {E:En} (h:OwnE2 w lo hi a a' E) (e1:lo'≤lo) (e2:hi≤hi') (e3:hi'≤w.heap.size):OwnE2 w lo' hi' a a' E:=by
  obtain ⟨h0,P,Q,k1,k2,k3,hp,hl⟩:=h;exact ⟨e3,P,Q,fun x hx=>by have:=k1 x hx;omega,fun x hx=>by have:=k2 x hx;omega,k3,hp,hl⟩
theorem OwnE.to2 {w:World} {lo hi:Nat} {a a':Option Addr} {E:En} (h:OwnE w lo hi a a' E):OwnE2 w lo hi a a' E:=by
  obtain ⟨h0,l1,h1,l2,h2,k1,k2,k3,k4,k5,hp,hl⟩:=h;exact ⟨h0,_,_,fun x hx=>by omega,fun x hx=>by omega,fun x hx hy=>by omega,hp.toP,hl.toP⟩
def ERes2 (c v:Int) (G:En) (w:World) (e:Ending) (w':World):Prop:=∃a cap a' cap',e=.returned (.agg #[.int .i64 c,.int .i64 v,.int .i64 G.nx,.int .i64 G.ck,.slice a G.p cap,.slice a' G.q cap'])∧Below w.heap.size w w'∧OwnE2 w' w.heap.size w'.heap.size a a' G
theorem GrTx.stepP {base top g cap:Nat} {w w':World} {v:Value} {k:Nat} {T:Nat→Tx} {t:Tx} {ai:Option Addr} {ci:Nat} (hn:t.n=0)
    (A:Nat→Option Addr) (c l h:Nat→Nat) (h0:top≤w.heap.size) (hown:w.ownsRow base 127 5 v k (rbTx T A c k)) (hv:∀q,v.ownBlock=some q→q<top) (hj:∀i j,i<k→j<k→i≠j→h i≤l j∨h j≤l i)
    (hc:∀i,i<k→(∀q,v.ownBlock=some q→q<l i∨h i≤q)∧(h i=0∨base≤l i∧h i≤top)∧(T i).n≤c i∧OwnUC w (l i) (h i) (A i) (c i) (T i).n (T i).U)
    (ho:w'.ownsRow base 127 5 (.slice (some ⟨g,0,none⟩) (k+1) cap) (k+1) (rbTx T A c k ++ rcTx t ai ci)) (hg:w.grownBy w' v.ownBlock) (hl:v.ownBlock=some g∨g=w.heap.size) (hlt:g<w'.heap.size) :
    OwnTxP w' (fun x=>(base≤x∧x<top)∨(w.heap.size≤x∧x<w'.heap.size)) (some ⟨g,0,none⟩) (k+1) (upf T k t):=by
  have hsz:=hg.size
  have far:∀L H,(∀q,v.ownBlock=some q→q<L∨H≤q)→∀a n U,OwnU w L H a n U→OwnU w' L H a n U:=by
    intro L H hq a n U hO;obtain ⟨o0,o1 | ⟨b,off,rfl,p1,p2,p3⟩⟩:=hO
    · exact ⟨by omega,.inl o1⟩
    · have hne:some b≠v.ownBlock:=fun e=>by have:=hq b e.symm;omega
      have e:=hg.block b (by omega) hne;refine ⟨by omega,.inr ⟨b,off,rfl,p1,p2,?_⟩⟩;exact rowU_block p3 e
  have e:rbTx (upf T k t) (fun i=>if i=k then ai else A i) (fun i=>if i=k then ci else c i) (k+1)=rbTx T A c k ++ rcTx t ai ci:=by
    simp only [rbTx,upf_eq,if_true]
    congr 1
    exact rbTx_congr k fun i hi=>⟨upf_ne _ _ (by omega),if_neg (by omega),if_neg (by omega)⟩
  rw [←e] at ho;refine .inr ⟨g,0,rfl,?_,hlt,fun i=>ho.frozenAt _,fun i=>if i=k then 0 else l i,fun i=>if i=k then 0 else h i,fun i j hi hj' hne=>?_,fun i hi=>?_⟩
  · rcases hl with hl | hl
    · exact .inl ⟨(hown.lt g hl).1,hv g hl⟩
    · exact .inr ⟨by omega,hlt⟩
  · by_cases c1:i=k <;> by_cases c2:j=k <;> simp only [c1,c2,if_true,if_false]
    · omega
    · omega
    · omega
    · exact hj i j (by omega) (by omega) hne
  · have cc:∀j v,j<5→(rcTx (upf T k t i) (if i=k then ai else A i) (if i=k then ci else c i))[j]? = some v→w'.cell? ⟨g,0+i*5+j,none⟩=some v:=fun j v hj hv=>by
      rw [ho.cellAt (0+i*5+j) (by omega),show 0+i*5+j=i*5+j by omega,rbTx_get _ _ _ (k+1) i j hi hj,hv]
    have hC:CTx w' g (0+i*5) (upf T k t i) (if i=k then ai else A i) (if i=k then ci else c i):=⟨cc 0 _ (by omega) rfl,cc 1 _ (by omega) rfl,cc 2 _ (by omega) rfl,cc 3 _ (by omega) rfl,cc 4 _ (by omega) rfl⟩
    by_cases e:i=k
    · subst e;refine ⟨.inr (by simp),fun x h1 h2=>by simp at h2,_,_,hC,?_,?_⟩
      · rw [upf_eq,hn];exact Nat.zero_le _
      · rw [upf_eq,hn];simp only [if_true];exact ⟨Nat.zero_le _,.inl rfl⟩
    · obtain ⟨m1,m2,m3,m4⟩:=hc i (by omega);simp only [if_neg e] at hC ⊢;rw [upf_ne _ _ e] at hC ⊢;refine ⟨?_,fun x x1 x2=>.inl (by omega),_,_,hC,m3,far _ _ m1 _ _ _ m4.toU⟩
      rcases hl with hl | hl
      · exact m1 g hl
      · omega
theorem wp_grTxP {o:Oper} {a:Act} {Kc:Act→World→Prop} {Q:Exit→Act→World→Prop} (w:World) (s x:Operand)
    (ho:o.op=.call { callee:=.builtin .append,args:=#[s,x],argTypes:=#[27,27] })
    (base top:Nat) (v:Value) (k:Nat) (T:Nat→Tx) (hs:a.eval s=v) (hgr:GrTx base top w v k T) (X O cx:Nat) (t:Tx) (ai:Option Addr) (ci:Nat) (hx:a.eval x=.slice (some ⟨X,O,none⟩) 1 cx) (hC:CTx w X O t ai ci)
    (hb:base≤top) (hn:t.n=0) (hlen:k≤100000)
    (hK:∀g cap w',OwnTxP w' (fun x=>(base≤x∧x<top)∨(w.heap.size≤x∧x<w'.heap.size)) (some ⟨g,0,none⟩) (k+1) (upf T k t)→w.grownBy w' v.ownBlock→(∀q,v.ownBlock=some q→base≤q∧q<top)→Kc (a.put o.dst (.slice (some ⟨g,0,none⟩) (k+1) cap)) w'):o.wp Tryz.prog a w Kc Q:=by
  obtain ⟨i0,hi,hz0,hz1,hz2⟩:=info_parts2 infoTx;obtain ⟨h0,A,c,l,h,hown,hv,hj,hc⟩:=hgr;refine wp_append_lies w s x 27 ho base 127 i0 _ 5 56 Tryz.underlying27 hi hz0 hz1 hz2 rfl (by decide) v k (rbTx T A c k) hs hown ⟨X,O,none⟩ 1 cx (rcTx t ai ci) hx rfl (fun j u hju=>?_) (rcTx_one _ _ _) (by decide) (by unfold maxLen;omega) (by omega) (by omega) _ rfl ?_
  · obtain ⟨h0,h1,h2,h3,h4⟩:=hC;rw [WideShapes.add_plain];have hd:j<5:=(by have:=(List.getElem?_eq_some_iff.1 hju).1;simpa [rcTx] using this);have hd2:j=0∨j=1∨j=2∨j=3∨j=4:=(by omega)
    rcases hd2 with rfl | rfl | rfl | rfl | rfl
    · rw [←hju];rw [Nat.add_zero];exact h0
    · rw [←hju];exact h1
    · rw [←hju];exact h2
    · rw [←hju];exact h3
    · rw [←hju];exact h4
  · intro g cap w' ho2 hg2 hl2 hlt2;exact hK g cap w' (GrTx.stepP hn A c l h h0 hown hv hj hc ho2 hg2 hl2 hlt2) hg2 fun q hq=>⟨(hown.lt q hq).1,hv q hq⟩
theorem wpList_grTxP {ops:Array Oper} {rest:List Oper} {o:Oper} {a:Act} {Q:Exit→Act→World→Prop} (w:World) (hgd:o.guard=none) (s x:Operand)
    (ho:o.op=.call { callee:=.builtin .append,args:=#[s,x],argTypes:=#[27,27] })
    (base top:Nat) (v:Value) (k:Nat) (T:Nat→Tx) (hs:a.eval s=v) (hgr:GrTx base top w v k T) (X O cx:Nat) (t:Tx) (ai:Option Addr) (ci:Nat) (hx:a.eval x=.slice (some ⟨X,O,none⟩) 1 cx) (hC:CTx w X O t ai ci)
    (hb:base≤top) (hn:t.n=0) (hlen:k≤100000)
    (hK:∀g cap w',OwnTxP w' (fun x=>(base≤x∧x<top)∨(w.heap.size≤x∧x<w'.heap.size)) (some ⟨g,0,none⟩) (k+1) (upf T k t)→w.grownBy w' v.ownBlock→(∀q,v.ownBlock=some q→base≤q∧q<top)→wpList Tryz.prog ops Q rest (a.put o.dst (.slice (some ⟨g,0,none⟩) (k+1) cap)) w'):wpList Tryz.prog ops Q (o :: rest) a w:=
  wpList_plain hgd fun _ hKK=>wp_grTxP w s x ho base top v k T hs hgr X O cx t ai ci hx hC hb hn hlen fun g cap w' h2 h3 h4=>hKK _ _ (hK g cap w' h2 h3 h4)
theorem grown_writes2 {w w':World} {r:Option Nat} {lo hi:Nat} (hg:w.grownBy w' r) (h:∀q,r=some q→lo≤q∧q<hi):Writes lo hi w w':=
  ⟨hg.os,hg.tape,hg.output,hg.size,fun k hk hd=>hg.block k hk fun e=>by have:=h k e.symm;omega⟩
theorem OwnTxP.writes {w w':World} {P:Nat→Prop} {lo hi:Nat} {a:Option Addr} {n:Nat} {T:Nat→Tx} (h:OwnTxP w P a n T) (hw:Writes lo hi w w') (hd:∀x,P x→x<lo∨hi≤x):OwnTxP w' P a n T:=
  h.keep hw.size fun x hx h1=>hw.block x h1 (hd x hx)
theorem eres_own2 {w wz w7:World} {E':En} {v:Int} {a a':Option Addr} {c c' b0 M C Z Y l h:Nat} (hb:Below w.heap.size w wz) (h1:w.heap.size≤l) (h2:h≤b0) (h3:b0≤M) (h5:M≤C) (h6:C≤Z) (h4:Y≤wz.heap.size) (h8:C≤wz.heap.size) (h7:l≤h) (ht:OwnTxP wz (fun x=>(b0≤x∧x<M)∨(Z≤x∧x<Y)) a E'.p E'.T) (hr:OwnRw wz M C a' E'.q E'.R) (hw:Writes l h wz w7) (hs:w7.heap.size=wz.heap.size) :
    ERes2 0 v E' w (.returned (.agg #[.int .i64 0,.int .i64 v,.int .i64 E'.nx,.int .i64 E'.ck,.slice a E'.p c,.slice a' E'.q c'])) w7:=by
  refine ⟨a,c,a',c',rfl,Writes.below hb hw h1,Nat.le_refl _,_,_,fun x hx=>?_,fun x hx=>?_,fun x hx hy=>?_,ht.writes hw fun x hx=>?_,(hr.writes hw (.inr (by omega))).toP⟩
  · rw [hs];omega
  · rw [hs];omega
  · omega
  · right;omega
end Go.Proofs.YtjdodbiphijjgaaGreat
