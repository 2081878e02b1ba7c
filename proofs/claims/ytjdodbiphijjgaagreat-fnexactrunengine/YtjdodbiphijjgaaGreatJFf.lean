import Derived.Test.YtjdodbiphijjgaaGreatJFd
import Derived.Test.YtjdodbiphijjgaaGreatJGg
namespace Go.Proofs.YtjdodbiphijjgaaGreat
open Go.RowKit Go.Deep
set_option linter.unusedVariables false
set_option maxRecDepth 20000
theorem l5Writer_q (n:Nat) (R:Nat→Vr) (a:Option Addr) (cap:Nat) (w:World) (h:VersAt w a n R) :
    Calls Tryz.prog 113 #[.slice a n cap] w fun e w'=>e=.returned (.int .i64 (wrt n R))∧∃m,w'=w.drewN m:=by
  refine (l5Writer_any n R a cap w h).mono ?_;rintro e w' ⟨rfl,rfl⟩;exact ⟨rfl,0,rfl⟩
theorem oB_none {q:Nat} {R:Nat→Rw} {t:Tx} {j:Nat} (h:fR q R (t.U j).k=-1):oB q R t j=false:=by simp [oB,h]
theorem oB_some {q:Nat} {R:Nat→Rw} {t:Tx} {j i:Nat} (h:fR q R (t.U j).k=(i:Int)):oB q R t j=(wrt (R i).n (R i).U == t.id && (t.U j).h == hasU t.U (t.U j).k j):=by
  simp only [oB,h,Int.toNat_natCast];rw [show decide ((0:Int)≤(i:Int))=true by simp];rfl
theorem owB_hit {q:Nat} {R:Nat→Rw} {t:Tx} {k:Nat} (hk:k<t.n) (h:oB q R t k=false):owB q R t=false:=allb_not hk h
set_option maxHeartbeats 16000000 in
theorem l6Owns_any (E:En) (B:Nat) (a:Option Addr) (cap:Nat) (a':Option Addr) (cap':Nat) (t:Tx) (bb o:Nat) (ai:Option Addr) (ci:Nat) (w:World) (hq:E.q≤32) (hn:t.n≤1048576) (h:EBox w B a cap a' cap' E) (hC:CTx w bb o t ai ci) (hU:UndsAt w ai t.n t.U) :
    Calls Tryz.prog 133 #[.pointer (some ⟨B,0,none⟩),.pointer (some ⟨bb,o,none⟩)] w fun e w'=>e=.returned (.bool (owB E.q E.R t))∧Below w.heap.size w w':=by
  have HX:Hid (EBox w B a cap a' cap' E):=h;have HCT:Hid (CTx w bb o t ai ci):=hC;have HU:Hid (UndsAt w ai t.n t.U):=hU;clear h hC hU;obtain ⟨nx,ck,p,T,q,R⟩:=E;dsimp only at hq HX ⊢;obtain ⟨x0,x1,x2,x3,x4⟩:=HCT.out;go_enter Tryz.func133,Tryz.ntmps133;go_wp2_with fail;clear x0 x1 x2 x3 x4;go_loopw [5,6,7,8,9] (fun i _ _ _ _ wr=>∃k:Nat,k≤t.n∧i=.int .i64 k∧Hid (allb (oB q R t) k=true)∧Hid (Below w.heap.size w wr)) (fun i _ _ _ _ _=>t.n-(intOf i).toNat)
  case atStart=>exact ⟨0,Nat.zero_le _,rfl,rfl,Below.refl _ _⟩
  case round=>
    obtain ⟨k,hk,rfl,HC,HB⟩:=hrel;have hblk:=(Go.block_lt_of_cell HCT.out.1);have HCR:Hid (CTx wr bb o t ai ci):=HCT.out.block (HB.out.block _ hblk);obtain ⟨x0,x1,x2,x3,x4⟩:=HCR.out
    by_cases hlt:k<t.n
    · have hlt':(k:Int)<(t.n:Int):=by omega
      have hk0:(0:Int)≤(k:Int):=(by omega)
      rcases HU.out.below HB.out with h | ⟨ub,uo,rfl,hul,huc⟩
      · omega
      obtain ⟨u0,u1,u2,u3⟩:=huc k hlt;have HUC:Hid (∀i,i<t.n→CU wr ub (uo+i*4) (t.U i)):=huc;clear huc x1 x2 x3;go_wp2_with fail;have HXA:Hid (∀o:Obj,EBox (wr.alloc o) B a cap a' cap' ⟨nx,ck,p,T,q,R⟩):=fun o=>(HX.out.below HB.out).below (below_new _ _);have HBA:Hid (∀o:Obj,Below w.heap.size w (wr.alloc o)):=fun o=>below_then HB.out (below_new _ _);refine (l6Row_any q R B a' cap' (t.U k).k _ (by omega) (HXA.out _).1.2.2.2 (HXA.out _).2.2).mono ?_;rintro e w1 ⟨rfl,hw1⟩;have X0:=cell_alloc x0;have X4:=cell_alloc x4;have hbx:CU w1 wr.heap.size 0 (t.U k):=(by rw [hw1];exact ⟨by simp [go_sem],by simp [go_sem],by simp [go_sem],by simp [go_sem]⟩);have HXW:Hid (EBox w1 B a cap a' cap' ⟨nx,ck,p,T,q,R⟩):=(by rw [hw1];exact HXA.out _);have HBW:Hid (Below w.heap.size w w1):=(by rw [hw1];exact HBA.out _)
      have HUW:Hid (∀i,i<t.n→CU w1 ub (uo+i*4) (t.U i)):=by
        intro i hi;rw [hw1];exact (HUC.out i hi).block ((below_new wr _).block _ hul)
      replace x0:w1.cell? ⟨bb,o,none⟩=some (.int .i64 t.id):=(by rw [hw1];exact X0 _);replace x4:w1.cell? ⟨bb,o+4,none⟩=some (.slice (some ⟨ub,uo,none⟩) t.n ci):=(by rw [hw1];exact X4 _);clear hw1 X0 X4 HXA HBA HUC u0 u1 u2 u3 HCR hul hblk;obtain ⟨q0,q1,q2,q3⟩:=hbx;simp only [Nat.zero_add] at q0 q1 q2 q3;generalize wr.heap.size=UB at *
      rcases fi_cases (fun i=>(R i).key == (t.U k).k) q with ⟨h1,-⟩ | ⟨j,hj,h1,-⟩
      · have h1':fR q R (t.U k).k=-1:=h1;have HE:Hid (owB q R t=false):=owB_hit hlt (oB_none h1');rw [h1'];clear h1 h1' HC;go_wp2_with fail;go_quiet (fail);go_wp2_with fail;go_ret;exact ⟨ret_bool HE.out.symm,below_drewN HBW.out _⟩
      · have h1':fR q R (t.U k).k=(j:Int):=h1;have HO:Hid (oB q R t k=(wrt (R j).n (R j).U == t.id && (t.U k).h == hasU t.U (t.U k).k k)):=oB_some h1';rw [h1'];clear h1 h1';obtain ⟨⟨b0,b1,b2,b3⟩,-,hRA⟩:=HXW.out;dsimp only at b0 b1 b2 b3 hRA
        rcases hRA with h | ⟨rb,ro,rfl,hrl,hrc⟩
        · omega
        obtain ⟨ri,rcp,⟨z0,z1⟩,hrv,-⟩:=hrc j hj;have HRV:Hid (VersAt w1 ri (R j).n (R j).U):=hrv;have hj1:(j:Int)<(q:Int):=(by omega);have hj0:(0:Int)≤(j:Int):=(by omega);have hj3:decide ((j:Int)<0)=false:=(by simp);clear hrc hrv b0 b1 b2 z0;go_wp2_with fail;go_quiet (first | (go_at_call 113;exact Calls.quiet_of (l5Writer_q (R j).n (R j).U ri rcp _ (HRV.out.below (below_drewN (Below.refl _ _) _)))));clear b3 z1 HRV hrl
        obtain hw | hw:=bool_or (wrt (R j).n (R j).U != t.id)
        · have HE:Hid (owB q R t=false):=owB_hit hlt (by rw [HO.out,show (wrt (R j).n (R j).U == t.id)=false by simpa [bne] using hw];rfl);clear HO HC;go_wp2_with fail;go_ret;exact ⟨ret_bool HE.out.symm,below_drewN HBW.out _⟩
        · have HO2:Hid (oB q R t k=((t.U k).h == hasU t.U (t.U k).k k)):=by
            show _=_;rw [HO.out,show (wrt (R j).n (R j).U == t.id)=true by simpa [bne] using hw];rfl
          have HBD:Hid (Below w1.heap.size w1 (w1.drewN nq)):=below_drewN (Below.refl _ _) _;have HBX:Hid (Below w.heap.size w (w1.drewN nq)):=below_drewN HBW.out _
          have HUX:Hid (∀i,i<t.n→CU (w1.drewN nq) ub (uo+i*4) (t.U i)):=fun i hi=>by
            have hlt1:=Go.block_lt_of_cell (HUW.out i hi).1;exact (HUW.out i hi).block (HBD.out.block _ hlt1)
          replace q0:=cell_below q0 HBD.out;replace q1:=cell_below q1 HBD.out;replace x4:=cell_below x4 HBD.out;clear q2 q3 x0 HO HBW HUW HXW HBD;generalize w1.drewN nq=w2 at *;go_wp2_with fail;go_loopw [8,9] (fun f i wy=>∃d:Nat,d≤k∧f=.bool (hasU t.U (t.U k).k d)∧i=.int .i64 d∧∃m,wy=w2.drewN m) (fun _ i _=>k-(intOf i).toNat)
          case atStart=>exact ⟨0,Nat.zero_le _,rfl,rfl,0,rfl⟩
          case round=>
            obtain ⟨d,hd,rfl,rfl,m,rfl⟩:=hrel
            by_cases hdk:d<k
            · have hdk':(d:Int)<(k:Int):=by omega
              have hd0:(0:Int)≤(d:Int):=(by omega);have hdn:(d:Int)<(t.n:Int):=(by omega);have hdn2:d<t.n:=(by omega);obtain ⟨v0,-⟩:=HUX.out d (by omega);have HS:Hid (hasU t.U (t.U k).k (d+1)=(hasU t.U (t.U k).k d || (t.U d).k == (t.U k).k)):=rfl
              obtain hh | hh:=bool_or (hasU t.U (t.U k).k d)
              · rw [hh] at HS ⊢;go_wp2_with fail;go_quiet (fail);go_wp2_with fail;go_roundw
                case rel=>exact ⟨d+1,hdk,by rw [HS.out];rfl,by go_num,by first | exact ⟨_,World.drewN_drewN _ _ _⟩ | exact ⟨_,rfl⟩⟩
                case measure=>simp [intOf];omega
              · rw [hh] at HS ⊢;go_wp2_with fail;go_quiet (fail);go_wp2_with fail;go_roundw
                case rel=>exact ⟨d+1,hdk,by rw [HS.out];rfl,by go_num,by first | exact ⟨_,World.drewN_drewN _ _ _⟩ | exact ⟨_,rfl⟩⟩
                case measure=>simp [intOf];omega
            · have hdk2:d=k:=by omega
              subst hdk2;have hnl:¬((d:Int)<(d:Int)):=(by omega);have HBY:Hid (Below w.heap.size w (w2.drewN m)):=below_drewN HBX.out _
              obtain hu | hu:=bool_or ((t.U d).h == hasU t.U (t.U d).k d)
              · have HE:Hid (allb (oB q R t) (d+1)=true):=by
                  show _=_;simp only [allb];rw [HC.out,HO2.out,hu];rfl
                clear HO2 HC;generalize hasU t.U (t.U d).k d=hv at *;go_wp2_with fail;go_roundw
                case rel=>exact ⟨d+1,hlt,by go_num,HE,HBY⟩
                case measure=>simp [intOf];omega
              · have HE:Hid (owB q R t=false):=owB_hit hlt (by rw [HO2.out,hu]);clear HO2 HC;generalize hasU t.U (t.U d).k d=hv at *;go_wp2_with fail;go_ret;exact ⟨ret_bool HE.out.symm,HBY.out⟩
    · have hkn:k=t.n:=by omega
      have HE:Hid (owB q R t=true):=(by rw [hkn] at HC;exact HC);have hnl:¬((k:Int)<(t.n:Int)):=(by omega);clear HC;go_wp2_with fail;go_ret;exact ⟨ret_bool HE.out.symm,HB.out⟩
theorem eF_3 {E:En} (h:inB E.nx 1 999=false∨inB E.ck 0 1000000=false):eF E=3:=if_pos h
theorem eF_2 {E:En} (h1:inB E.nx 1 999=true) (h2:inB E.ck 0 1000000=true) (h:20<E.p∨32<E.q):eF E=2:=by
  unfold eF;rw [if_neg (by simp [h1,h2]),if_pos h]
theorem eF_t {E:En} (h1:inB E.nx 1 999=true) (h2:inB E.ck 0 1000000=true) (h3:E.p≤20) (h4:E.q≤32) (h:ffz (tF E.nx E.ck E.T) E.p 0≠0):eF E=ffz (tF E.nx E.ck E.T) E.p 0:=by
  unfold eF;rw [if_neg (by simp [h1,h2]),if_neg (by omega),if_neg h]
theorem eF_r {E:En} (h1:inB E.nx 1 999=true) (h2:inB E.ck 0 1000000=true) (h3:E.p≤20) (h4:E.q≤32) (h5:ffz (tF E.nx E.ck E.T) E.p 0=0) (h:ffz (rF E.ck E.p E.T E.R) E.q 0≠0):eF E=ffz (rF E.ck E.p E.T E.R) E.q 0:=by
  unfold eF;rw [if_neg (by simp [h1,h2]),if_neg (by omega),if_pos h5,if_neg h]
theorem eF_o {E:En} (h1:inB E.nx 1 999=true) (h2:inB E.ck 0 1000000=true) (h3:E.p≤20) (h4:E.q≤32) (h5:ffz (tF E.nx E.ck E.T) E.p 0=0) (h6:ffz (rF E.ck E.p E.T E.R) E.q 0=0):eF E=if allb (fun i=>owB E.q E.R (E.T i)) E.p=true then 0 else 1:=by
  unfold eF;rw [if_neg (by simp [h1,h2]),if_neg (by omega),if_pos h5,if_pos h6]
set_option maxHeartbeats 8000000 in
theorem l6Fault_any (E:En) (B:Nat) (a:Option Addr) (cap:Nat) (a':Option Addr) (cap':Nat) (w:World) (hs:SmallE E) (h:EBox w B a cap a' cap' E) :
    Calls Tryz.prog 74 #[.pointer (some ⟨B,0,none⟩)] w fun e w'=>e=.returned (.int .i64 (eF E))∧Below w.heap.size w w':=by
  have HX:Hid (EBox w B a cap a' cap' E):=h;have HS:Hid (SmallE E):=hs;have hp0:=hs.p;have hq0:=hs.q;obtain ⟨⟨b0,b1,b2,b3⟩,-,-⟩:=h;clear hs
  obtain h1 | h1:=bool_or (inB E.nx 1 999)
  case inr=>
    have HE:Hid (eF E=3):=eF_3 (.inl h1);clear HX HS;go_enter Tryz.func74,Tryz.ntmps74;go_wp2_with (first | (go_at_call 130;refine (l5Txn_any _ _).mono ?_;rintro e w' ⟨rfl,rfl⟩) | (go_at_call 75;refine (l1In_any _ _ _ _).mono ?_;rintro e w' ⟨rfl,rfl⟩));go_ret;exact ⟨ret_int HE.out.symm,Below.refl _ _⟩
  obtain h2 | h2:=bool_or (inB E.ck 0 1000000)
  case inr=>
    have HE:Hid (eF E=3):=eF_3 (.inr h2);clear HX HS;go_enter Tryz.func74,Tryz.ntmps74;go_wp2_with (first | (go_at_call 130;refine (l5Txn_any _ _).mono ?_;rintro e w' ⟨rfl,rfl⟩) | (go_at_call 75;refine (l1In_any _ _ _ _).mono ?_;rintro e w' ⟨rfl,rfl⟩));go_ret;exact ⟨ret_int HE.out.symm,Below.refl _ _⟩
  by_cases h3:20<E.p
  · have HE:Hid (eF E=2):=eF_2 h1 h2 (.inl h3);have h3':(20:Int)<(E.p:Int):=(by omega);clear HX HS;go_enter Tryz.func74,Tryz.ntmps74;go_wp2_with (first | (go_at_call 130;refine (l5Txn_any _ _).mono ?_;rintro e w' ⟨rfl,rfl⟩) | (go_at_call 75;refine (l1In_any _ _ _ _).mono ?_;rintro e w' ⟨rfl,rfl⟩));go_ret;exact ⟨ret_int HE.out.symm,Below.refl _ _⟩
  have h3':¬((20:Int)<(E.p:Int)):=(by omega)
  by_cases h4:32<E.q
  · have HE:Hid (eF E=2):=eF_2 h1 h2 (.inr h4);have h4':(32:Int)<(E.q:Int):=(by omega);clear HX HS;go_enter Tryz.func74,Tryz.ntmps74;go_wp2_with (first | (go_at_call 130;refine (l5Txn_any _ _).mono ?_;rintro e w' ⟨rfl,rfl⟩) | (go_at_call 75;refine (l1In_any _ _ _ _).mono ?_;rintro e w' ⟨rfl,rfl⟩));go_ret;exact ⟨ret_int HE.out.symm,Below.refl _ _⟩
  have h4':¬((32:Int)<(E.q:Int)):=(by omega);have h5:E.p≤20:=(by omega);have h6:E.q≤32:=(by omega);have hN:1≤E.nx∧E.nx≤999:=inB_iff.1 h1;have HT:=fun h=>eF_t h1 h2 h5 h6 h;have HR:=fun a h=>eF_r h1 h2 h5 h6 a h;have HO:=fun a b=>eF_o h1 h2 h5 h6 a b;have HTH:Hid (ffz (tF E.nx E.ck E.T) E.p 0≠0→eF E=ffz (tF E.nx E.ck E.T) E.p 0):=HT;have HRH:Hid (ffz (tF E.nx E.ck E.T) E.p 0=0→ffz (rF E.ck E.p E.T E.R) E.q 0≠0→eF E=ffz (rF E.ck E.p E.T E.R) E.q 0):=HR;have HOH:Hid (ffz (tF E.nx E.ck E.T) E.p 0=0→ffz (rF E.ck E.p E.T E.R) E.q 0=0→eF E=if allb (fun i=>owB E.q E.R (E.T i)) E.p=true then 0 else 1):=HO;clear HT HR HO;go_enter Tryz.func74,Tryz.ntmps74;go_upto_region 5 with (first | (go_at_call 130;refine (l5Txn_any _ _).mono ?_;rintro e w' ⟨rfl,hw'⟩;have hw2:=hw'.symm;clear hw';subst hw2) | (go_at_call 75;refine (l1In_any _ _ _ _).mono ?_;rintro e w' ⟨rfl,hw'⟩;have hw2:=hw'.symm;clear hw';subst hw2));clear b0 b1 b2 b3 h1 h2 h3 h4 h3' h4';go_wp2_with fail;refine (l6Txns_any E B a cap a' cap' w h5 HS.out.t hN HX.out).mono ?_;rintro e w1 ⟨rfl,hb1⟩;have HB1:Hid (Below w.heap.size w w1):=hb1;clear hb1
  by_cases c1:ffz (tF E.nx E.ck E.T) E.p 0=0
  case neg=>
    have HE:Hid (eF E=_):=HTH.out c1;have c2:(ffz (tF E.nx E.ck E.T) E.p 0 != 0)=true:=(by simp [c1]);clear HTH HRH HOH c1;generalize ffz (tF E.nx E.ck E.T) E.p 0=uu at *;go_wp2_with fail;go_ret;exact ⟨ret_int HE.out.symm,HB1.out⟩
  rw [c1];go_wp2_with fail;refine (l6Rows_any E B a cap a' cap' w1 h5 h6 HS.out.t HS.out.r (HX.out.below HB1.out)).mono ?_;rintro e w2 ⟨rfl,hb2⟩;have HB2:Hid (Below w.heap.size w w2):=below_then HB1.out hb2;clear hb2
  by_cases c3:ffz (rF E.ck E.p E.T E.R) E.q 0=0
  case neg=>
    have HE:Hid (eF E=_):=HRH.out c1 c3;have c2:(ffz (rF E.ck E.p E.T E.R) E.q 0 != 0)=true:=(by simp [c3]);clear HTH HRH HOH c1 c3;generalize ffz (rF E.ck E.p E.T E.R) E.q 0=uu at *;go_wp2_with fail;go_ret;exact ⟨ret_int HE.out.symm,HB2.out⟩
  rw [c3];have HE0:Hid (eF E=if allb (fun i=>owB E.q E.R (E.T i)) E.p=true then 0 else 1):=HOH.out c1 c3;clear HTH HRH HOH c1 c3;go_wp2_with fail;go_loopw [5] (fun i wr=>∃k:Nat,k≤E.p∧i=.int .i64 k∧Hid (allb (fun i=>owB E.q E.R (E.T i)) k=true)∧Hid (Below w.heap.size w wr)) (fun i _=>E.p-(intOf i).toNat)
  case atStart=>exact ⟨0,Nat.zero_le _,rfl,rfl,HB2⟩
  case round=>
    obtain ⟨k,hk,rfl,HC,HB⟩:=hrel;have HXR:Hid (EBox wr B a cap a' cap' E):=HX.out.below HB.out;obtain ⟨⟨b0,b1,b2,b3⟩,hTA,-⟩:=HXR.out
    by_cases hlt:k<E.p
    · have hlt':(k:Int)<(E.p:Int):=by omega
      have hk0:(0:Int)≤(k:Int):=(by omega)
      rcases hTA with h | ⟨bb,off,rfl,hl,hcc⟩
      · omega
      obtain ⟨ai,ci,hCT,hun,-⟩:=hcc k hlt;have HCT:Hid (CTx wr bb (off+k*5) (E.T k) ai ci):=hCT;have HUN:Hid (UndsAt wr ai (E.T k).n (E.T k).U):=hun;clear hcc hCT hun b0 b1 b3;go_wp2_with fail;refine (l6Owns_any E B _ cap a' cap' (E.T k) bb (off+k*5) ai ci wr h6 (HS.out.t k hlt) HXR.out HCT.out HUN.out).mono ?_;rintro e w3 ⟨rfl,hb3⟩;have HB3:Hid (Below w.heap.size w w3):=below_then HB.out hb3;clear hb3 b2
      obtain ho | ho:=bool_or (owB E.q E.R (E.T k))
      · have HE:Hid (allb (fun i=>owB E.q E.R (E.T i)) (k+1)=true):=by
          show _=_;simp only [allb];rw [HC.out,ho];rfl
        rw [ho];clear HC ho;go_wp2_with fail;go_roundw
        case rel=>exact ⟨k+1,hlt,by go_num,HE,HB3⟩
        case measure=>simp [intOf];omega
      · have HE:Hid (eF E=1):=HE0.out.trans (if_neg (by rw [allb_not hlt ho];decide));rw [ho];clear HC ho HE0;go_wp2_with fail;go_ret;exact ⟨ret_int HE.out.symm,HB3.out⟩
    · have hkn:k=E.p:=by omega
      have HE:Hid (eF E=0):=HE0.out.trans (if_pos (by rw [hkn] at HC;exact HC.out));have hnl:¬((k:Int)<(E.p:Int)):=(by omega);clear HC HE0;go_wp2_with fail;go_ret;exact ⟨ret_int HE.out.symm,HB.out⟩
def askC (E:En) (id:Int):Int:=if eF E=0 then (if fT E.p E.T id<0 then 4 else if (E.T (fT E.p E.T id).toNat).st=1 then 0 else 10) else eF E
def askP (E:En) (id:Int):Int:=if askC E id=0 then fT E.p E.T id else 0
theorem ask_bad {E:En} {id:Int} (h:eF E≠0):askC E id=eF E∧askP E id=0:=by
  have e:askC E id=eF E:=if_neg h;exact ⟨e,if_neg (by rw [e];exact h)⟩
theorem ask_none {E:En} {id:Int} (h:eF E=0) (h1:fT E.p E.T id=-1):askC E id=4∧askP E id=0:=by
  have e:askC E id=4:=(by unfold askC;rw [if_pos h,if_pos (by rw [h1];decide)]);exact ⟨e,if_neg (by rw [e];decide)⟩
theorem ask_some {E:En} {id:Int} {j:Nat} (h:eF E=0) (h1:fT E.p E.T id=(j:Int)):(askC E id=if (E.T j).st=1 then 0 else 10)∧(askP E id=if (E.T j).st=1 then (j:Int) else 0):=by
  have e:askC E id=if (E.T j).st=1 then 0 else 10:=by
    unfold askC;rw [if_pos h,if_neg (by rw [h1];omega),h1,Int.toNat_natCast]
  refine ⟨e,?_⟩;unfold askP;rw [e]
  by_cases h2:(E.T j).st=1
  · rw [if_pos h2,if_pos rfl,if_pos h2,h1]
  · rw [if_neg h2,if_neg (by decide),if_neg h2]
theorem fT_cases (E:En) (id:Int):fT E.p E.T id=-1∨∃j,j<E.p∧fT E.p E.T id=(j:Int)∧(E.T j).id=id:=by
  rcases fi_cases (fun i=>(E.T i).id == id) E.p with ⟨h1,-⟩ | ⟨j,h1,h2,h3,-⟩
  · exact .inl h1
  · exact .inr ⟨j,h1,h2,by simpa using h3⟩
theorem eF_pq {E:En} (h:eF E=0):E.p≤20∧E.q≤32:=by
  unfold eF at h;split at h
  · omega
  · split at h
    · omega
    · omega
set_option maxHeartbeats 2000000 in
theorem l6Asked_any (E:En) (B:Nat) (a:Option Addr) (cap:Nat) (a':Option Addr) (cap':Nat) (id:Int) (w:World) (hs:SmallE E) (h:EBox w B a cap a' cap' E) :
    Calls Tryz.prog 59 #[.pointer (some ⟨B,0,none⟩),.int .i64 id] w fun e w'=>e=.returned (.tuple #[.int .i64 (askP E id),.int .i64 (askC E id)])∧Below w.heap.size w w':=by
  have HX:Hid (EBox w B a cap a' cap' E):=h;have HS:Hid (SmallE E):=hs;clear h hs;go_enter Tryz.func59,Tryz.ntmps59;go_wp2_with fail;refine (l6Fault_any E B a cap a' cap' w HS.out HX.out).mono ?_;rintro e w1 ⟨rfl,hb1⟩;have HB1:Hid (Below w.heap.size w w1):=hb1;have HX1:Hid (EBox w1 B a cap a' cap' E):=HX.out.below hb1;clear hb1
  by_cases hc:eF E=0
  case neg=>
    have HE:Hid (askC E id=eF E∧askP E id=0):=ask_bad hc;have hc2:(eF E != 0)=true:=(by simp [hc]);clear hc;generalize eF E=uu at *;go_wp2_with fail;go_ret2;exact ⟨by rw [HE.out.1,HE.out.2];rfl,HB1.out⟩
  have hp20:=(eF_pq hc).1;have HC:Hid (eF E=0):=hc;rw [hc];clear hc;obtain ⟨⟨b0,b1,b2,b3⟩,hTA,-⟩:=HX1.out;have HTA:Hid (TxsAt w1 a E.p E.T):=hTA;clear hTA;go_wp2_with fail;refine (l6Txn_any E.p E.T B a cap id w1 (by omega) b2 HTA.out).mono ?_;rintro e w2 ⟨rfl,hw2⟩;have hw3:=hw2.symm;clear hw2;subst hw3
  rcases fT_cases E id with h1 | ⟨j,hj,h1,-⟩
  · have HE:Hid (askC E id=4∧askP E id=0):=ask_none HC.out h1;rw [h1];clear h1;go_wp2_with fail;go_ret2;exact ⟨by rw [HE.out.1,HE.out.2];rfl,HB1.out⟩
  · have HE:Hid ((askC E id=if (E.T j).st=1 then 0 else 10)∧(askP E id=if (E.T j).st=1 then (j:Int) else 0)):=ask_some HC.out h1;rw [h1]
    rcases HTA.out with h | ⟨bb,off,rfl,hl,hcc⟩
    · omega
    obtain ⟨ti,tc,⟨x0,x1,x2,x3,x4⟩,-,-⟩:=hcc j hj;have hj1:(j:Int)<(E.p:Int):=(by omega);have hj0:(0:Int)≤(j:Int):=(by omega);have hj3:¬((j:Int)<0):=(by omega);clear hcc h1
    by_cases hst:(E.T j).st=1
    · have hs2:((E.T j).st != 1)=false:=by simp [hst]
      have HE2:Hid (askC E id=0∧askP E id=(j:Int)):=⟨HE.out.1.trans (if_pos hst),HE.out.2.trans (if_pos hst)⟩;clear hst HE;go_wp2_with fail;go_ret2;exact ⟨by rw [HE2.out.1,HE2.out.2];rfl,HB1.out⟩
    · have hs2:((E.T j).st != 1)=true:=by simp [hst]
      have HE2:Hid (askC E id=10∧askP E id=0):=⟨HE.out.1.trans (if_neg hst),HE.out.2.trans (if_neg hst)⟩;clear hst HE;go_wp2_with fail;go_ret2;exact ⟨by rw [HE2.out.1,HE2.out.2];rfl,HB1.out⟩
theorem open1_any (t:Tx) (ti:Option Addr) (tc:Nat) (B:Nat) (id:Int) (w:World) (hc:w.cell? ⟨B,0,none⟩=some (.int .i64 id)) :
    Calls Tryz.prog 166 #[.agg #[.int .i64 t.id,.int .i64 t.am,.int .i64 t.st,.int .i64 t.dn,.slice ti t.n tc],.pointer (some ⟨B,0,none⟩)] w fun e w'=>e=.returned (.bool (t.id == id))∧Below w.heap.size w w':=by
  have h2:=fun o:Obj=>cell_alloc hc o;go_enter Tryz.func166,Tryz.ntmps166;go_wp2_with fail;go_ret;exact ⟨rfl,below_new _ _⟩
set_option maxHeartbeats 2000000 in
theorem idxOpen_any (n:Nat) (T:Nat→Tx) (a:Option Addr) (cap:Nat) (B:Nat) (id:Int) (w:World) (hp:n≤1048576) (c0:w.cell? ⟨B,0,none⟩=some (.int .i64 id)) (h:TxsAt w a n T) :
    Calls Tryz.prog 165 #[.slice a n cap,.func (.func 166) #[] #[.pointer (some ⟨B,0,none⟩)]] w fun e w'=>e=.returned (.int .i64 (fT n T id))∧Below w.heap.size w w':=by
  have HA:Hid (TxsAt w a n T):=h;have HC0:Hid (w.cell? ⟨B,0,none⟩=some (.int .i64 id)):=c0;generalize hC:fT n T id=C;have hC':fi (fun i=>(T i).id == id) n 0=C:=hC;clear h c0 hC;go_enter Tryz.func165,Tryz.ntmps165;go_wp2_with fail;go_loopw [5,8] (fun _ i wr=>∃k:Nat,k≤n∧i=.int .i64 k∧Hid (C=fi (fun i=>(T i).id == id) (n-k) k)∧Hid (Below w.heap.size w wr)) (fun _ i _=>n-(intOf i).toNat)
  case atStart=>exact ⟨0,Nat.zero_le _,rfl,hC'.symm,Below.refl _ _⟩
  case round=>
    obtain ⟨k,hk,rfl,HC,HB⟩:=hrel
    by_cases hlt:k<n
    · have hlt':(k:Int)<(n:Int):=by omega
      have hk0:(0:Int)≤(k:Int):=(by omega)
      rcases HA.out.below HB.out with h | ⟨bb,off,rfl,hl,hcc⟩
      · omega
      obtain ⟨ti,tc,⟨x0,x1,x2,x3,x4⟩,-,-⟩:=hcc k hlt;have HE0:=HC.out.trans (fi_at _ hlt);clear hcc HC hC';go_wp2_with fail;refine (open1_any (T k) ti tc B id wr (cell_below HC0.out HB.out)).mono ?_;rintro e w1 ⟨rfl,hb1⟩;have HB1:Hid (Below w.heap.size w w1):=below_then HB.out hb1;clear hb1 x0 x1 x2 x3 x4
      obtain hq | hq:=bool_or2 ((T k).id == id)
      · have HE:Hid (C=k):=by rw [if_pos hq] at HE0;exact HE0
        clear HE0;rw [hq];go_wp2_with fail;go_ret;exact ⟨ret_int HE.out.symm,HB1.out⟩
      · have HE:Hid (C=fi (fun i=>(T i).id == id) (n-(k+1)) (k+1)):=by rw [if_neg (by simpa using hq)] at HE0;exact HE0
        clear HE0;rw [hq];go_wp2_with fail;go_roundw
        case rel=>exact ⟨k+1,hlt,by go_num,HE,HB1⟩
        case measure=>simp [intOf];omega
    · have HE:Hid (C=-1):=by
        have h:=HC.out;rw [show n-k=0 by omega] at h;exact h
      clear HC hC';have hnl:¬((k:Int)<(n:Int)):=(by omega);go_wp2_with fail;go_ret;exact ⟨ret_int HE.out.symm,HB.out⟩
set_option maxHeartbeats 4000000 in
theorem placeOfOpen_any (E:En) (a:Option Addr) (cap:Nat) (a':Option Addr) (cap':Nat) (id:Int) (w:World) (hs:SmallE E) (h:EngAt w a a' E) :
    Calls Tryz.prog 97 #[.agg #[.int .i64 E.nx,.int .i64 E.ck,.slice a E.p cap,.slice a' E.q cap'],.int .i64 id] w fun e w'=>e=.returned (.tuple #[.int .i64 (askP E id),.int .i64 (askC E id)])∧Below w.heap.size w w':=by
  have HX:Hid (EngAt w a a' E):=h;have HS:Hid (SmallE E):=hs;have hmf:∀(fn:Fn) (first cap:Array Value) (w:World),(Instr.makeFunc fn first cap).run Tryz.prog w=.ok (.func fn first cap) w:=fun _ _ _ _=>rfl;clear h hs;have HW:Hid (∀o1 o2:Obj,Below w.heap.size w ((w.alloc o1).alloc o2)):=fun o1 o2=>(((Below.refl _ _).alloc (Nat.le_refl _) _).alloc (by simp) _)
  have HBX:Hid (∀o1 o2:Obj,o1=.cells #[.int .i64 E.nx,.int .i64 E.ck,.slice a E.p cap,.slice a' E.q cap'] 30→o2=.cells #[.int .i64 id] 2→
      Box4 ((w.alloc o1).alloc o2) w.heap.size (.int .i64 E.nx) (.int .i64 E.ck) (.slice a E.p cap) (.slice a' E.q cap')∧((w.alloc o1).alloc o2).cell? ⟨w.heap.size+1,0,none⟩=some (.int .i64 id)):=by
    rintro o1 o2 rfl rfl;exact ⟨(Box4.new w _ _ _ _ _).alloc _,by simp [go_sem]⟩
  go_enter Tryz.func97,Tryz.ntmps97;go_wp2_with fail;refine (implEf_any E a cap a' cap' _ HS.out (HX.out.below (HW.out _ _))).mono ?_;rintro e w1 ⟨rfl,hb1⟩;obtain ⟨hb4,hid⟩:=HBX.out _ _ rfl rfl;have B4:=hb4.below hb1;have hid1:=cell_below hid hb1;have HB1:Hid (Below w.heap.size w w1):=below_then (HW.out _ _) hb1;have HX1:Hid (EngAt w1 a a' E):=HX.out.below HB1.out;clear hb1 hb4 hid HBX HW HX
  by_cases hc:eF E=0
  case neg=>
    have HE:Hid (askC E id=eF E∧askP E id=0):=ask_bad hc;have hc2:(eF E != 0)=true:=(by simp [hc]);clear hc;generalize eF E=uu at *;go_wp2_with fail;go_ret2;exact ⟨by rw [HE.out.1,HE.out.2];rfl,HB1.out⟩
  have hp20:=(eF_pq hc).1;have HC:Hid (eF E=0):=hc;rw [hc];clear hc;obtain ⟨b0,b1,b2,b3⟩:=B4;go_wp2_with fail;refine (idxOpen_any E.p E.T a cap (w.heap.size+1) id w1 (by omega) hid1 HX1.out.1).mono ?_;rintro e w2 ⟨rfl,hb2⟩;have HB2:Hid (Below w.heap.size w w2):=below_then HB1.out hb2;have HX2:Hid (EngAt w2 a a' E):=HX1.out.below hb2;replace b2:=cell_below b2 hb2;clear hb2 b0 b1 b3 hid1
  rcases fT_cases E id with h1 | ⟨j,hj,h1,-⟩
  · have HE:Hid (askC E id=4∧askP E id=0):=ask_none HC.out h1;rw [h1];clear h1;go_wp2_with fail;go_ret2;exact ⟨by rw [HE.out.1,HE.out.2];rfl,HB2.out⟩
  · have HE:Hid ((askC E id=if (E.T j).st=1 then 0 else 10)∧(askP E id=if (E.T j).st=1 then (j:Int) else 0)):=ask_some HC.out h1;rw [h1]
    rcases HX2.out.1 with h | ⟨bb,off,rfl,hl,hcc⟩
    · omega
    obtain ⟨ti,tc,⟨x0,x1,x2,x3,x4⟩,-,-⟩:=hcc j hj;have hj1:(j:Int)<(E.p:Int):=(by omega);have hj0:(0:Int)≤(j:Int):=(by omega);have hj3:¬((j:Int)<0):=(by omega);clear hcc h1
    by_cases hst:(E.T j).st=1
    · have hs2:((E.T j).st != 1)=false:=by simp [hst]
      have HE2:Hid (askC E id=0∧askP E id=(j:Int)):=⟨HE.out.1.trans (if_pos hst),HE.out.2.trans (if_pos hst)⟩;clear hst HE;go_wp2_with fail;go_ret2;exact ⟨by rw [HE2.out.1,HE2.out.2];rfl,HB2.out⟩
    · have hs2:((E.T j).st != 1)=true:=by simp [hst]
      have HE2:Hid (askC E id=10∧askP E id=0):=⟨HE.out.1.trans (if_neg hst),HE.out.2.trans (if_neg hst)⟩;clear hst HE;go_wp2_with fail;go_ret2;exact ⟨by rw [HE2.out.1,HE2.out.2];rfl,HB2.out⟩
end Go.Proofs.YtjdodbiphijjgaaGreat
