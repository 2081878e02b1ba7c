import Derived.Test.YtjdodbiphijjgaaGreatJFc
import Derived.Test.YtjdodbiphijjgaaGreatJVf
namespace Go.Proofs.YtjdodbiphijjgaaGreat
open Go.RowKit Go.Deep
set_option linter.unusedVariables false
set_option maxRecDepth 20000
theorem l6Wrote_q (n:Nat) (U:Nat→Ud) (b o:Nat) (ai:Option Addr) (ci:Nat) (key:Int) (w:World) (hn:n≤1048576) (hc:w.cell? ⟨b,o+4,none⟩=some (.slice ai n ci)) (h:UndsAt w ai n U) :
    Calls Tryz.prog 223 #[.pointer (some ⟨b,o,none⟩),.int .i64 key] w fun e w'=>e=.returned (.bool (hasU U key n))∧∃m,w'=w.drewN m:=by
  refine (l6Wrote_any n U b o ai ci key w hn hc h).mono ?_;rintro e w' ⟨rfl,rfl⟩;exact ⟨rfl,0,rfl⟩
theorem opB_0 {p:Nat} {T:Nat→Tx} {r:Rw} (h:wrt r.n r.U=0):opB p T r=true:=by simp [opB,h]
theorem opB_none {p:Nat} {T:Nat→Tx} {r:Rw} (h:wrt r.n r.U≠0) (h2:fT p T (wrt r.n r.U)=-1):opB p T r=false:=by
  simp [opB,h,h2]
theorem opB_some {p:Nat} {T:Nat→Tx} {r:Rw} {j:Nat} (h:wrt r.n r.U≠0) (h2:fT p T (wrt r.n r.U)=j):opB p T r=((T j).st == 1 && hasU (T j).U r.key (T j).n):=by
  have e:(wrt r.n r.U == 0)=false:=(by simp [h]);simp only [opB,e,h2,Int.toNat_natCast,Bool.false_or];rw [show decide ((0:Int)≤(j:Int))=true by simp];rfl
set_option maxHeartbeats 4000000 in
theorem l6Open_any (E:En) (B:Nat) (a:Option Addr) (cap:Nat) (a':Option Addr) (cap':Nat) (r:Rw) (bb o:Nat) (ai:Option Addr) (ci:Nat) (w:World) (hp:E.p≤20) (hsm:∀i,i<E.p→(E.T i).n≤1048576) (h:EBox w B a cap a' cap' E) (hC:CRw w bb o r ai ci) (hV:VersAt w ai r.n r.U) :
    Calls Tryz.prog 189 #[.pointer (some ⟨B,0,none⟩),.pointer (some ⟨bb,o,none⟩)] w fun e w'=>e=.returned (.bool (opB E.p E.T r))∧∃m,w'=w.drewN m:=by
  have HX:Hid (EBox w B a cap a' cap' E):=h;have HS:Hid (∀i,i<E.p→(E.T i).n≤1048576):=hsm;have HV:Hid (VersAt w ai r.n r.U):=hV;clear h hsm hV;obtain ⟨nx,ck,p,T,q,R⟩:=E;dsimp only at *;obtain ⟨⟨b0,b1,b2,b3⟩,hTA,-⟩:=HX.out;dsimp only at b0 b1 b2 b3 hTA;have HTA:Hid (TxsAt w a p T):=hTA;obtain ⟨y0,y1⟩:=hC;clear hTA b0 b1 b3 HX;go_enter Tryz.func189,Tryz.ntmps189;go_wp2_with fail;refine (l5Writer_any r.n r.U ai ci w HV.out).mono ?_;rintro e w1 ⟨rfl,hw1⟩;have hw2:=hw1.symm;clear hw1;subst hw2
  by_cases h0:wrt r.n r.U=0
  · have HE:Hid (opB p T r=true):=opB_0 h0;rw [h0];go_wp2_with fail;go_ret;exact ⟨ret_bool HE.out.symm,0,rfl⟩
  have h0':(wrt r.n r.U == 0)=false:=(by simp [h0]);have HF:=fi_cases (fun i=>(T i).id == wrt r.n r.U) p
  have HF2:Hid ((fT p T (wrt r.n r.U)=-1)∨∃j,j<p∧fT p T (wrt r.n r.U)=(j:Int)):=by
    rcases HF with ⟨h1,-⟩ | ⟨j,h1,h2,-⟩
    · exact .inl h1
    · exact .inr ⟨j,h1,h2⟩
  have HN:Hid (wrt r.n r.U≠0):=h0;have HO1:Hid (fT p T (wrt r.n r.U)=-1→opB p T r=false):=fun h=>opB_none h0 h;have HO2:Hid (∀j:Nat,fT p T (wrt r.n r.U)=j→opB p T r=((T j).st == 1 && hasU (T j).U r.key (T j).n)):=fun j h=>opB_some h0 h;clear HF h0;generalize wrt r.n r.U=wv at *;go_wp2_with fail;refine (l6Txn_any p T B a cap wv w (by omega) b2 HTA.out).mono ?_;rintro e w1 ⟨rfl,hw1⟩;have hw2:=hw1.symm;clear hw1;subst hw2
  rcases HF2.out with h1 | ⟨j,hj,h1⟩
  · have HE:Hid (opB p T r=false):=HO1.out h1;rw [h1];clear HO1 HO2 HF2 h1;go_wp2_with fail;go_quiet (fail);go_wp2_with fail;go_ret;exact ⟨ret_bool HE.out.symm,_,rfl⟩
  · have HE:Hid (opB p T r=((T j).st == 1 && hasU (T j).U r.key (T j).n)):=HO2.out j h1;rw [h1];clear HO1 HO2 HF2 h1
    rcases HTA.out with h | ⟨tb,tof,rfl,hl,hcc⟩
    · omega
    obtain ⟨ti,tc,⟨x0,x1,x2,x3,x4⟩,hun,-⟩:=hcc j hj;have HUN:Hid (UndsAt w ti (T j).n (T j).U):=hun;have HSJ:Hid ((T j).n≤1048576):=HS.out j hj;have hj1:(j:Int)<(p:Int):=(by omega);have hj0:(0:Int)≤(j:Int):=(by omega);clear hcc hun
    obtain hs | hs:=bool_or ((T j).st == 1)
    · rw [hs] at HE;go_wp2_with fail;go_quiet (first | (go_at_call 223;exact Calls.quiet_of (l6Wrote_q (T j).n (T j).U tb (tof+j*5) ti tc r.key _ HSJ.out (cell_below x4 (below_drewN (Below.refl _ _) _)) (HUN.out.below (below_drewN (Below.refl _ _) _)))));go_wp2_with fail;go_ret;exact ⟨ret_bool (by rw [HE.out];rfl),_,rfl⟩
    · rw [hs] at HE;go_wp2_with fail;go_quiet (fail);go_wp2_with fail;go_ret;exact ⟨ret_bool (by rw [HE.out];rfl),_,rfl⟩
theorem rF_3 {ck:Int} {p:Nat} {T:Nat→Tx} {R:Nat→Rw} {i:Nat} (h:inB (R i).key 0 31=false):rF ck p T R i=3:=if_pos h
theorem rF_1 {ck:Int} {p:Nat} {T:Nat→Tx} {R:Nat→Rw} {i:Nat} (h:inB (R i).key 0 31=true) (h1:rB1 R i=true):rF ck p T R i=1:=by
  unfold rF;rw [if_neg (by simp [h]),if_pos h1]
theorem rF_c {ck:Int} {p:Nat} {T:Nat→Tx} {R:Nat→Rw} {i:Nat} (h:inB (R i).key 0 31=true) (h1:rB1 R i=false) (hc:chF (R i).n (R i).U≠0):rF ck p T R i=chF (R i).n (R i).U:=by
  unfold rF;rw [if_neg (by simp [h]),if_neg (by simp [h1]),if_neg hc]
theorem rF_b {ck:Int} {p:Nat} {T:Nat→Tx} {R:Nat→Rw} {i:Nat} (h:inB (R i).key 0 31=true) (h1:rB1 R i=false) (hc:chF (R i).n (R i).U=0):rF ck p T R i=if (rB2 ck (R i) || !opB p T (R i))=true then 1 else 0:=by
  unfold rF;rw [if_neg (by simp [h]),if_neg (by simp [h1]),if_pos hc]
theorem rB1_n {R:Nat→Rw} {i:Nat} (h:rB1 R i=false):0<(R i).n:=by
  unfold rB1 at h
  have:((R i).n == 0)=false:=by
    cases e:((R i).n == 0) with
    | false=>rfl
    | true=>rw [e,Bool.or_true] at h;cases h
  have:(R i).n≠0:=(by simpa using this);omega
set_option maxHeartbeats 16000000 in
theorem l6Rows_any (E:En) (B:Nat) (a:Option Addr) (cap:Nat) (a':Option Addr) (cap':Nat) (w:World) (hp:E.p≤20) (hq:E.q≤32) (hsm:∀i,i<E.p→(E.T i).n≤1048576) (hsr:∀i,i<E.q→(E.R i).n≤1048576) (h:EBox w B a cap a' cap' E) :
    Calls Tryz.prog 132 #[.pointer (some ⟨B,0,none⟩)] w fun e w'=>e=.returned (.int .i64 (ffz (rF E.ck E.p E.T E.R) E.q 0))∧Below w.heap.size w w':=by
  have HX:Hid (EBox w B a cap a' cap' E):=h;have HS:Hid (∀i,i<E.p→(E.T i).n≤1048576):=hsm;have HSR:Hid (∀i,i<E.q→(E.R i).n≤1048576):=hsr;have HP:Hid (E.p≤20):=hp;clear h hsm hsr hp;obtain ⟨nx,ck,p,T,q,R⟩:=E;dsimp only at hq HX HS HSR HP ⊢;generalize hC:ffz (rF ck p T R) q 0=C;obtain ⟨b0,b1,b2,b3⟩:=HX.out.1;dsimp only at b0 b1 b2 b3;go_enter Tryz.func132,Tryz.ntmps132;go_wp2_with fail;clear b0 b1 b2 b3;go_loopw [3,4,5] (fun i _ _ wr=>∃k:Nat,k≤q∧i=.int .i64 k∧Hid (C=ffz (rF ck p T R) (q-k) k)∧Hid (Below w.heap.size w wr)) (fun i _ _ _=>q-(intOf i).toNat)
  case atStart=>exact ⟨0,Nat.zero_le _,rfl,hC.symm,Below.refl _ _⟩
  case round=>
    obtain ⟨k,hk,rfl,HC,HB⟩:=hrel;have HXR:Hid (EBox wr B a cap a' cap' ⟨nx,ck,p,T,q,R⟩):=HX.out.below HB.out;obtain ⟨⟨b0,b1,b2,b3⟩,-,hRA⟩:=HXR.out;dsimp only at b0 b1 b2 b3 hRA
    by_cases hlt:k<q
    · have hlt':(k:Int)<(q:Int):=by omega
      have hk0:(0:Int)≤(k:Int):=(by omega)
      rcases hRA with h | ⟨bb,off,rfl,hl,hcc⟩
      · omega
      obtain ⟨ai,ci,hCR,hun,-⟩:=hcc k hlt;have HCR:Hid (CRw wr bb (off+k*2) (R k) ai ci):=hCR;obtain ⟨x0,x1⟩:=hCR;have HUN:Hid (VersAt wr ai (R k).n (R k).U):=hun
      have HCC:Hid (∀i,i<q→wr.cell? ⟨bb,off+i*2,none⟩=some (.int .i64 (R i).key)):=fun i hi=>by obtain ⟨_,_,⟨h,_⟩,_⟩:=hcc i hi;exact h
      have HE0:Hid (C=_):=HC.out.trans (ffz_at _ hlt);have HSK:Hid ((R k).n≤1048576):=HSR.out k hlt;clear hcc HC hun hC b0
      obtain hk1 | hk1:=bool_or (inB (R k).key 0 31)
      case inr=>
        have HE:Hid (C=3):=ffz_hit HE0.out (rF_3 hk1) (by decide);clear HE0;go_wp2_with (first | (go_at_call 61;refine (l1Key_any _ _).mono ?_;rintro e w' ⟨rfl,rfl⟩));go_ret;exact ⟨ret_int HE.out.symm,HB.out⟩
      go_upto_region 7 with (first | (go_at_call 61;refine (l1Key_any _ _).mono ?_;rintro e w' ⟨rfl,hw'⟩;have hw2:=hw'.symm;clear hw';subst hw2));go_cut [52] (fun cc wx=>cc=.bool (rB1 R k)∧∃m,wx=wr.drewN m)
      case first=>
        have h1B:Hid (rB1 R k=((decide (0<k) && decide ((R k).key≤(R (k-1)).key)) || (R k).n == 0)):=rfl
        have hn0:Hid (((R k).n == 0)=(((R k).n:Int) == 0)):=by
          show _=_
          rcases Nat.eq_zero_or_pos (R k).n with e | e
          · simp [e]
          · rw [show ((R k).n == 0)=false by simp;omega,show (((R k).n:Int) == 0)=false by simp;omega]
        rcases Nat.eq_zero_or_pos k with e | e
        · have hd:decide (0<k)=false:=by simp;omega
          have HV:Hid (rB1 R k=((R k).n == 0)):=(by show _=_;rw [h1B.out,hd];rfl);clear HE0 h1B e;go_quiet (fail);go_wp2_with fail;go_meet;refine ⟨?_,_,rfl⟩;rw [HV.out]
          first | rfl | rw [hn0.out]
        · obtain ⟨j,rfl⟩:∃j,k=j+1:=⟨k-1,by omega⟩;have y3:=HCC.out j (by omega);have hj1:(j:Int)<(q:Int):=(by omega);have hj2:j<q:=(by omega);have hj8:(j:Int)+1<(q:Int):=(by omega);have hj7:(0:Int)≤(j:Int)+1:=(by omega);have hwj:IntKind.i64.wrap (j:Int)=(j:Int):=(by rw [IntKind.wrap_i64];omega)
          obtain hx1 | hx1:=bool_or (decide ((R (j+1)).key≤(R j).key))
          · have HV:Hid (rB1 R (j+1)=true):=by show _=_;rw [h1B.out,show decide (0<j+1)=true by simp,Nat.add_sub_cancel,hx1];rfl
            clear HE0 h1B e;go_quiet (fail);go_wp2_with fail;go_meet;refine ⟨?_,_,rfl⟩;rw [HV.out]
          · have HV:Hid (rB1 R (j+1)=((R (j+1)).n == 0)):=by show _=_;rw [h1B.out,show decide (0<j+1)=true by simp,Nat.add_sub_cancel,hx1];rfl
            clear HE0 h1B e;go_quiet (fail);go_wp2_with fail;go_meet;refine ⟨?_,_,rfl⟩;rw [HV.out]
            first | rfl | rw [hn0.out]
      case rest=>
        obtain ⟨rfl,m5,rfl⟩:=hcut;have HB2:Hid (Below w.heap.size w (wr.drewN m5)):=below_drewN HB.out _;have HBD:Hid (Below wr.heap.size wr (wr.drewN m5)):=below_drewN (Below.refl _ _) _;have HUN2:Hid (VersAt (wr.drewN m5) ai (R k).n (R k).U):=HUN.out.below HBD.out;have HCR2:Hid (CRw (wr.drewN m5) bb (off+k*2) (R k) ai ci):=⟨cell_below x0 HBD.out,cell_below x1 HBD.out⟩;have HXR2:Hid (EBox (wr.drewN m5) B a cap (some ⟨bb,off,none⟩) cap' ⟨nx,ck,p,T,q,R⟩):=HXR.out.below HBD.out;clear x0 x1 b1 b2 b3 HUN HCR HXR HB HCC hl HBD;generalize wr.drewN m5=w5 at *
        obtain h1 | h1:=bool_or (rB1 R k)
        · have HE:Hid (C=1):=ffz_hit HE0.out (rF_1 hk1 h1) (by decide);rw [h1];clear HE0 h1;go_wp2_with fail;go_ret;exact ⟨ret_int HE.out.symm,HB2.out⟩
        rw [h1];have hn0:=rB1_n h1;obtain ⟨x0,x1⟩:=HCR2.out;go_wp2_with fail;refine (specChF_any (R k).n (R k).U ai ci w5 (by have:=HSK.out;omega) HUN2.out).mono ?_;rintro e w8 ⟨rfl,hb8⟩;have HB8:Hid (Below w.heap.size w w8):=below_then HB2.out hb8;have HUN3:Hid (VersAt w8 ai (R k).n (R k).U):=HUN2.out.below hb8;have HCR3:Hid (CRw w8 bb (off+k*2) (R k) ai ci):=⟨cell_below x0 hb8,cell_below x1 hb8⟩;have HXR3:Hid (EBox w8 B a cap (some ⟨bb,off,none⟩) cap' ⟨nx,ck,p,T,q,R⟩):=HXR2.out.below hb8;clear x0 x1 hb8 HUN2 HCR2 HXR2 HB2
        by_cases hc:chF (R k).n (R k).U=0
        case neg=>
          have HE:Hid (C=chF (R k).n (R k).U):=ffz_hit HE0.out (rF_c hk1 h1 hc) hc;have hc2:(chF (R k).n (R k).U != 0)=true:=(by simp [hc]);clear HE0 hc;generalize chF (R k).n (R k).U=uu at *;go_wp2_with fail;go_ret;exact ⟨ret_int HE.out.symm,HB8.out⟩
        have HE1:Hid (rF ck p T R k=if (rB2 ck (R k) || !opB p T (R k))=true then 1 else 0):=rF_b hk1 h1 hc;rw [hc];clear hc h1 hk1;obtain ⟨x0,x1⟩:=HCR3.out;obtain ⟨⟨b0,b1,b2,b3⟩,-,-⟩:=HXR3.out;dsimp only at b0 b1 b2 b3
        rcases HUN3.out with h | ⟨vb,vo,rfl,hvl,hvc⟩
        · omega
        obtain ⟨-,z0,-⟩:=hvc 0 hn0;rw [Nat.zero_mul,Nat.add_zero] at z0;have HZ:Hid (∀i,i<(R k).n→C4 w8 vb (vo+i*4) ((R k).U i)):=hvc;have hn1:(0:Int)<((R k).n:Int):=(by omega);clear hvc;go_upto_region 12 with fail;go_cut [100] (fun cc wx=>cc=.bool (rB2 ck (R k) || !opB p T (R k))∧∃m,wx=w8.drewN m)
        case first=>
          have h2B:Hid (rB2 ck (R k)=(decide (ck<((R k).U 0).a) || (decide (1<(R k).n) && decide (ck<((R k).U 1).a)))):=rfl
          have HQ:Hid (∀m,Calls Tryz.prog 189 #[.pointer (some ⟨B,0,none⟩),.pointer (some ⟨bb,off+k*2,none⟩)] (w8.drewN m) fun e w'=>e=.returned (.bool (opB p T (R k)))∧∃m',w'=(w8.drewN m).drewN m'):=fun m=>
            l6Open_any ⟨nx,ck,p,T,q,R⟩ B a cap (some ⟨bb,off,none⟩) cap' (R k) bb (off+k*2) _ ci _ HP.out HS.out (HXR3.out.below (below_drewN (Below.refl _ _) _)) ⟨cell_below x0 (below_drewN (Below.refl _ _) _),cell_below x1 (below_drewN (Below.refl _ _) _)⟩ (HUN3.out.below (below_drewN (Below.refl _ _) _))
          obtain ha | ha:=bool_or (decide (ck<((R k).U 0).a))
          · have HV:Hid ((rB2 ck (R k) || !opB p T (R k))=true):=by show _=_;rw [h2B.out,ha];rfl
            clear HE0 HE1 h2B HQ;go_quiet (fail);go_wp2_with fail;go_meet;refine ⟨?_,_,rfl⟩;rw [HV.out]
          · by_cases hn2:1<(R k).n
            · have hd2:decide (1<(R k).n)=true:=by simp;omega
              have hd3:(1:Int)<((R k).n:Int):=(by omega);obtain ⟨-,z1,-⟩:=HZ.out 1 hn2;rw [Nat.one_mul] at z1
              obtain ha1 | ha1:=bool_or (decide (ck<((R k).U 1).a))
              · have HV:Hid ((rB2 ck (R k) || !opB p T (R k))=true):=by show _=_;rw [h2B.out,ha,hd2,ha1];rfl
                clear HE0 HE1 h2B HQ;go_quiet (fail);go_wp2_with fail;go_meet;refine ⟨?_,_,rfl⟩;rw [HV.out]
              · have HV:Hid ((rB2 ck (R k) || !opB p T (R k))=!opB p T (R k)):=by show _=_;rw [h2B.out,ha,hd2,ha1];rfl
                clear HE0 HE1 h2B;go_quiet (first | (go_at_call 189;exact Calls.quiet_of (HQ.out _)));go_wp2_with fail;go_meet;refine ⟨?_,_,rfl⟩;rw [HV.out]
            · have hd2:decide (1<(R k).n)=false:=by simp;omega
              have hd4:decide ((1:Int)<((R k).n:Int))=false:=(by simp;omega);have HV:Hid ((rB2 ck (R k) || !opB p T (R k))=!opB p T (R k)):=(by show _=_;rw [h2B.out,ha,hd2];rfl);clear HE0 HE1 h2B hn2;go_quiet (first | (go_at_call 189;exact Calls.quiet_of (HQ.out _)));go_wp2_with fail;go_meet;refine ⟨?_,_,rfl⟩;rw [HV.out]
        case rest=>
          obtain ⟨rfl,m7,rfl⟩:=hcut;have HB9:Hid (Below w.heap.size w (w8.drewN m7)):=below_drewN HB8.out _
          obtain hb | hb:=bool_or (rB2 ck (R k) || !opB p T (R k))
          · have HE:Hid (C=1):=ffz_hit HE0.out (HE1.out.trans (if_pos hb)) (by decide);rw [hb];clear HE0 HE1 hb;go_wp2_with fail;go_ret;exact ⟨ret_int HE.out.symm,HB9.out⟩
          · have HE:Hid (C=ffz (rF ck p T R) (q-(k+1)) (k+1)):=ffz_on HE0.out (HE1.out.trans (if_neg (by simp [hb])));rw [hb];clear HE0 HE1 hb;go_wp2_with fail;go_roundw
            case rel=>exact ⟨k+1,hlt,by go_num,HE,HB9⟩
            case measure=>simp [intOf];omega
    · have HE:Hid (C=0):=by
        have h:=HC.out;rw [show q-k=0 by omega] at h;exact h
      have hnl:¬((k:Int)<(q:Int)):=(by omega);clear HC hC;go_wp2_with fail;go_ret;exact ⟨ret_int HE.out.symm,HB.out⟩
end Go.Proofs.YtjdodbiphijjgaaGreat
