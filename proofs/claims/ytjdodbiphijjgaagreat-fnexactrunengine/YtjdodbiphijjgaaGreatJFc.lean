import Derived.Test.YtjdodbiphijjgaaGreatJFb
import Derived.Deep.DeepCutAuto
namespace Go.Proofs.YtjdodbiphijjgaaGreat
open Go.RowKit Go.Deep
set_option linter.unusedVariables false
set_option maxRecDepth 20000
def EBox (w:World) (B:Nat) (a:Option Addr) (cap:Nat) (a':Option Addr) (cap':Nat) (E:En):Prop:=
  Box4 w B (.int .i64 E.nx) (.int .i64 E.ck) (.slice a E.p cap) (.slice a' E.q cap')∧EngAt w a a' E
theorem EBox.below {w w':World} {B:Nat} {a:Option Addr} {cap:Nat} {a':Option Addr} {cap':Nat} {E:En} (h:EBox w B a cap a' cap' E) (hb:Below w.heap.size w w'):EBox w' B a cap a' cap' E:=⟨h.1.below hb,h.2.below hb⟩
theorem l1In_q2 (v lo hi:Int) (w:World):Calls Tryz.prog 75 #[.int .i64 v,.int .i64 lo,.int .i64 hi] w fun e w'=>e=.returned (.bool (inB v lo hi))∧∃n,w'=w.drewN n:=by
  refine (l1In_any v lo hi w).mono ?_;rintro e w' ⟨rfl,rfl⟩;exact ⟨rfl,0,rfl⟩
theorem tF_3 {nx ck:Int} {T:Nat→Tx} {i:Nat} (h:tIn nx ck (T i)=false):tF nx ck T i=3:=if_pos h
theorem tF_1 {nx ck:Int} {T:Nat→Tx} {i:Nat} (h:tIn nx ck (T i)=true) (h2:(tB1 T i || tB2 (T i) || tB3 (T i))=true):tF nx ck T i=1:=by
  unfold tF;rw [if_neg (by simp [h]),if_pos h2]
theorem tF_u {nx ck:Int} {T:Nat→Tx} {i:Nat} (h:tIn nx ck (T i)=true) (h2:(tB1 T i || tB2 (T i) || tB3 (T i))=false):tF nx ck T i=usF (T i).n (T i).U:=by
  unfold tF;rw [if_neg (by simp [h]),if_neg (by simp [h2])]
theorem ffz_hit {f:Nat→Int} {C:Int} {n k:Nat} {c:Int} (h:C=if f k=0 then ffz f (n-(k+1)) (k+1) else f k) (e:f k=c) (hc:c≠0):C=c:=by
  rw [if_neg (by rw [e];exact hc),e] at h;exact h
theorem ffz_on {f:Nat→Int} {C:Int} {n k:Nat} (h:C=if f k=0 then ffz f (n-(k+1)) (k+1) else f k) (e:f k=0):C=ffz f (n-(k+1)) (k+1):=by
  rw [if_pos e] at h;exact h
set_option maxHeartbeats 16000000 in
theorem l6Txns_any (E:En) (B:Nat) (a:Option Addr) (cap:Nat) (a':Option Addr) (cap':Nat) (w:World) (hp:E.p≤20) (hsm:∀i,i<E.p→(E.T i).n≤1048576) (hN:1≤E.nx∧E.nx≤999) (h:EBox w B a cap a' cap' E) :
    Calls Tryz.prog 131 #[.pointer (some ⟨B,0,none⟩)] w fun e w'=>e=.returned (.int .i64 (ffz (tF E.nx E.ck E.T) E.p 0))∧Below w.heap.size w w':=by
  have HX:Hid (EBox w B a cap a' cap' E):=h;have HS:Hid (∀i,i<E.p→(E.T i).n≤1048576):=hsm;have hwn:IntKind.i64.wrap (E.nx-1)=E.nx-1:=(by rw [IntKind.wrap_i64];omega);clear h hsm;obtain ⟨nx,ck,p,T,q,R⟩:=E;dsimp only at *;generalize hC:ffz (tF nx ck T) p 0=C;obtain ⟨b0,b1,b2,b3⟩:=HX.out.1;dsimp only at b0 b1 b2 b3;go_enter Tryz.func131,Tryz.ntmps131;go_wp2_with fail;clear b0 b1 b2 b3;go_loopw [3,4,5] (fun i _ _ wr=>∃k:Nat,k≤p∧i=.int .i64 k∧Hid (C=ffz (tF nx ck T) (p-k) k)∧Hid (Below w.heap.size w wr)) (fun i _ _ _=>p-(intOf i).toNat)
  case atStart=>exact ⟨0,Nat.zero_le _,rfl,hC.symm,Below.refl _ _⟩
  case round=>
    obtain ⟨k,hk,rfl,HC,HB⟩:=hrel;obtain ⟨⟨b0,b1,b2,b3⟩,hTA,-⟩:=HX.out.below HB.out;dsimp only at b0 b1 b2 b3 hTA
    by_cases hlt:k<p
    · have hlt':(k:Int)<(p:Int):=by omega
      have hk0:(0:Int)≤(k:Int):=(by omega)
      rcases hTA with h | ⟨bb,off,rfl,hl,hcc⟩
      · omega
      obtain ⟨ai,ci,⟨x0,x1,x2,x3,x4⟩,hun,-⟩:=hcc k hlt;have HUN:Hid (UndsAt wr ai (T k).n (T k).U):=hun
      have HCC:Hid (∀i,i<p→wr.cell? ⟨bb,off+i*5,none⟩=some (.int .i64 (T i).id)):=fun i hi=>by obtain ⟨_,_,⟨h,_⟩,_⟩:=hcc i hi;exact h
      have HE0:Hid (C=_):=HC.out.trans (ffz_at _ hlt);have HSK:Hid ((T k).n≤1048576):=HS.out k hlt;clear hcc HC hun hC;have HI:Hid (tIn nx ck (T k)=(inB (T k).id 1 (nx-1) && inB (T k).am 0 ck && inB (T k).st 1 3 && inB (T k).dn 0 ck)):=rfl;go_upto_region 5 with fail;go_cut [63] (fun cc wx=>cc=.bool (!tIn nx ck (T k))∧∃m,wx=wr.drewN m)
      case first=>
        have t:∀x1 x2 x3 x4:Bool,inB (T k).id 1 (nx-1)=x1→inB (T k).am 0 ck=x2→inB (T k).st 1 3=x3→inB (T k).dn 0 ck=x4→tIn nx ck (T k)=(x1 && x2 && x3 && x4):=fun _ _ _ _ h1 h2 h3 h4=>by rw [HI.out,h1,h2,h3,h4]
        obtain h1 | h1:=bool_or (inB (T k).id 1 (nx-1))
        · obtain h2 | h2:=bool_or (inB (T k).am 0 ck)
          · obtain h3 | h3:=bool_or (inB (T k).st 1 3)
            · have HT:Hid (tIn nx ck (T k)=inB (T k).dn 0 ck):=by show _=_;rw [t _ _ _ _ h1 h2 h3 rfl];rfl
              clear t;go_quiet (first | (go_at_call 75;exact Calls.quiet_of (l1In_q2 _ _ _ _)));go_wp2_with fail;go_meet;refine ⟨?_,_,rfl⟩;rw [HT.out]
            · have HT:Hid (tIn nx ck (T k)=false):=by show _=_;rw [t _ _ _ _ h1 h2 h3 rfl];rfl
              clear t;go_quiet (first | (go_at_call 75;exact Calls.quiet_of (l1In_q2 _ _ _ _)));go_wp2_with fail;go_meet;refine ⟨?_,_,rfl⟩;rw [HT.out];rfl
          · have HT:Hid (tIn nx ck (T k)=false):=by show _=_;rw [t _ _ _ _ h1 h2 rfl rfl];rfl
            clear t;go_quiet (first | (go_at_call 75;exact Calls.quiet_of (l1In_q2 _ _ _ _)));go_wp2_with fail;go_meet;refine ⟨?_,_,rfl⟩;rw [HT.out];rfl
        · have HT:Hid (tIn nx ck (T k)=false):=by show _=_;rw [t _ _ _ _ h1 rfl rfl rfl];rfl
          clear t;go_quiet (first | (go_at_call 75;exact Calls.quiet_of (l1In_q2 _ _ _ _)));go_wp2_with fail;go_meet;refine ⟨?_,_,rfl⟩;rw [HT.out];rfl
      case rest=>
        obtain ⟨rfl,m5,rfl⟩:=hcut;have HB2:Hid (Below w.heap.size w (wr.drewN m5)):=below_drewN HB.out _;have HUN2:Hid (UndsAt (wr.drewN m5) ai (T k).n (T k).U):=HUN.out.below (below_drewN (Below.refl _ _) _);have HCC2:Hid (∀i,i<p→(wr.drewN m5).cell? ⟨bb,off+i*5,none⟩=some (.int .i64 (T i).id)):=fun i hi=>cell_below (HCC.out i hi) (below_drewN (Below.refl _ _) _);replace b0:=cell_below b0 (below_drewN (Below.refl _ _) m5);replace b2:=cell_below b2 (below_drewN (Below.refl _ _) m5);replace x0:=cell_below x0 (below_drewN (Below.refl _ _) m5);replace x1:=cell_below x1 (below_drewN (Below.refl _ _) m5);replace x2:=cell_below x2 (below_drewN (Below.refl _ _) m5);replace x3:=cell_below x3 (below_drewN (Below.refl _ _) m5);replace x4:=cell_below x4 (below_drewN (Below.refl _ _) m5);clear b1 b3 hl HB HUN HCC HI;generalize wr.drewN m5=w5 at *
        obtain ht | ht:=bool_or (tIn nx ck (T k))
        case inr=>
          have HE:Hid (C=3):=ffz_hit HE0.out (tF_3 ht) (by decide);clear HE0;rw [ht];go_wp2_with fail;go_ret;exact ⟨ret_int HE.out.symm,HB2.out⟩
        rw [ht];have HT:Hid (tIn nx ck (T k)=true):=ht;clear ht;go_upto_region 7 with fail;go_cut [121] (fun cc wx=>cc=.bool (tB1 T k || tB2 (T k) || tB3 (T k))∧∃m,wx=w5.drewN m)
        case first=>
          have h1B:Hid (tB1 T k=(decide (0<k) && decide ((T k).id≤(T (k-1)).id))):=rfl;have h2B:Hid (tB2 (T k)=((T k).dn != 0 && ((T k).st != 2 || decide ((T k).dn≤(T k).am)))):=rfl;have h3B:Hid (tB3 (T k)=(decide (0<(T k).n) && (T k).st != 1)):=rfl
          have t:∀y1 y2 y3:Bool,tB1 T k=y1→tB2 (T k)=y2→tB3 (T k)=y3→(tB1 T k || tB2 (T k) || tB3 (T k))=(y1 || y2 || y3):=fun _ _ _ e1 e2 e3=>by rw [e1,e2,e3]
          have hfirst:(∃j,k=j+1∧tB1 T k=decide ((T k).id≤(T j).id))∨(decide (0<k)=false∧tB1 T k=false):=by
            rcases Nat.eq_zero_or_pos k with e | e
            · exact .inr ⟨by simp;omega,by rw [h1B.out,show decide (0<k)=false by simp;omega];rfl⟩
            · refine .inl ⟨k-1,by omega,?_⟩;rw [h1B.out,show decide (0<k)=true by simp;omega];rfl
          rcases hfirst with ⟨j,rfl,e1⟩ | ⟨hd,e1⟩
          · have y3:=HCC2.out j (by omega);have hj1:(j:Int)<(p:Int):=(by omega);have hj2:j<p:=(by omega);have hj8:(j:Int)+1<(p:Int):=(by omega);have hj7:(0:Int)≤(j:Int)+1:=(by omega);have hwj:IntKind.i64.wrap (j:Int)=(j:Int):=(by rw [IntKind.wrap_i64];omega);clear HE0
            obtain hx1 | hx1:=bool_or (decide ((T (j+1)).id≤(T j).id))
            · rw [hx1] at e1;obtain ⟨b2',e2⟩:∃b,tB2 (T (j+1))=b:=⟨_,rfl⟩;obtain ⟨b3',e3⟩:∃b,tB3 (T (j+1))=b:=⟨_,rfl⟩;have HV:Hid ((tB1 T (j+1) || tB2 (T (j+1)) || tB3 (T (j+1)))=true):=(by show _=_;rw [e1];rfl);clear t e1 e2 e3 h1B h2B h3B;go_quiet (fail);go_wp2_with fail;go_meet;refine ⟨?_,_,rfl⟩;rw [HV.out]
            · rw [hx1] at e1
              obtain hd1 | hd1:=bool_or ((T (j+1)).dn != 0)
              · obtain hs2 | hs2:=bool_or ((T (j+1)).st != 2)
                · have e2:tB2 (T (j+1))=true:=by rw [h2B.out,hd1,hs2];rfl
                  obtain ⟨b3',e3⟩:∃b,tB3 (T (j+1))=b:=⟨_,rfl⟩;have HV:Hid ((tB1 T (j+1) || tB2 (T (j+1)) || tB3 (T (j+1)))=true):=(by show _=_;rw [e1,e2];rfl);clear t e1 e2 e3 h1B h2B h3B;go_quiet (fail);go_wp2_with fail;go_meet;refine ⟨?_,_,rfl⟩;rw [HV.out]
                · obtain hl2 | hl2:=bool_or (decide ((T (j+1)).dn≤(T (j+1)).am))
                  · have e2:tB2 (T (j+1))=true:=by rw [h2B.out,hd1,hs2,hl2];rfl
                    obtain ⟨b3',e3⟩:∃b,tB3 (T (j+1))=b:=⟨_,rfl⟩;have HV:Hid ((tB1 T (j+1) || tB2 (T (j+1)) || tB3 (T (j+1)))=true):=(by show _=_;rw [e1,e2];rfl);clear t e1 e2 e3 h1B h2B h3B;go_quiet (fail);go_wp2_with fail;go_meet;refine ⟨?_,_,rfl⟩;rw [HV.out]
                  · have e2:tB2 (T (j+1))=false:=by rw [h2B.out,hd1,hs2,hl2];rfl
                    rcases Nat.eq_zero_or_pos (T (j+1)).n with hn0 | hn0
                    · have hn1:decide (0<(T (j+1)).n)=false:=by simp;omega
                      have e3:tB3 (T (j+1))=false:=(by rw [h3B.out,hn1];rfl);clear hn0;have HV:Hid ((tB1 T (j+1) || tB2 (T (j+1)) || tB3 (T (j+1)))=false):=(by show _=_;rw [e1,e2,e3];rfl);clear t e1 e2 e3 h1B h2B h3B;go_quiet (fail);go_wp2_with fail;go_meet;refine ⟨?_,_,rfl⟩;rw [HV.out]
                    · have hn1:decide (0<(T (j+1)).n)=true:=by simp;omega
                      have hn2:(0:Int)<((T (j+1)).n:Int):=(by omega);have e3:tB3 (T (j+1))=((T (j+1)).st != 1):=(by rw [h3B.out,hn1];rfl);have HV:Hid ((tB1 T (j+1) || tB2 (T (j+1)) || tB3 (T (j+1)))=((T (j+1)).st != 1)):=(by show _=_;rw [e1,e2,e3];rfl);clear t e1 e2 e3 h1B h2B h3B;go_quiet (fail);go_wp2_with fail;go_meet;refine ⟨?_,_,rfl⟩;rw [HV.out]
              · have e2:tB2 (T (j+1))=false:=by rw [h2B.out,hd1];rfl
                rcases Nat.eq_zero_or_pos (T (j+1)).n with hn0 | hn0
                · have hn1:decide (0<(T (j+1)).n)=false:=by simp;omega
                  have e3:tB3 (T (j+1))=false:=(by rw [h3B.out,hn1];rfl);clear hn0;have HV:Hid ((tB1 T (j+1) || tB2 (T (j+1)) || tB3 (T (j+1)))=false):=(by show _=_;rw [e1,e2,e3];rfl);clear t e1 e2 e3 h1B h2B h3B;go_quiet (fail);go_wp2_with fail;go_meet;refine ⟨?_,_,rfl⟩;rw [HV.out]
                · have hn1:decide (0<(T (j+1)).n)=true:=by simp;omega
                  have hn2:(0:Int)<((T (j+1)).n:Int):=(by omega);have e3:tB3 (T (j+1))=((T (j+1)).st != 1):=(by rw [h3B.out,hn1];rfl);have HV:Hid ((tB1 T (j+1) || tB2 (T (j+1)) || tB3 (T (j+1)))=((T (j+1)).st != 1)):=(by show _=_;rw [e1,e2,e3];rfl);clear t e1 e2 e3 h1B h2B h3B;go_quiet (fail);go_wp2_with fail;go_meet;refine ⟨?_,_,rfl⟩;rw [HV.out]
          · clear HE0
            obtain hd1 | hd1:=bool_or ((T k).dn != 0)
            · obtain hs2 | hs2:=bool_or ((T k).st != 2)
              · have e2:tB2 (T k)=true:=by rw [h2B.out,hd1,hs2];rfl
                obtain ⟨b3',e3⟩:∃b,tB3 (T k)=b:=⟨_,rfl⟩;have HV:Hid ((tB1 T k || tB2 (T k) || tB3 (T k))=true):=(by show _=_;rw [e1,e2];rfl);clear t e1 e2 e3 h1B h2B h3B;go_quiet (fail);go_wp2_with fail;go_meet;refine ⟨?_,_,rfl⟩;rw [HV.out]
              · obtain hl2 | hl2:=bool_or (decide ((T k).dn≤(T k).am))
                · have e2:tB2 (T k)=true:=by rw [h2B.out,hd1,hs2,hl2];rfl
                  obtain ⟨b3',e3⟩:∃b,tB3 (T k)=b:=⟨_,rfl⟩;have HV:Hid ((tB1 T k || tB2 (T k) || tB3 (T k))=true):=(by show _=_;rw [e1,e2];rfl);clear t e1 e2 e3 h1B h2B h3B;go_quiet (fail);go_wp2_with fail;go_meet;refine ⟨?_,_,rfl⟩;rw [HV.out]
                · have e2:tB2 (T k)=false:=by rw [h2B.out,hd1,hs2,hl2];rfl
                  rcases Nat.eq_zero_or_pos (T k).n with hn0 | hn0
                  · have hn1:decide (0<(T k).n)=false:=by simp;omega
                    have e3:tB3 (T k)=false:=(by rw [h3B.out,hn1];rfl);clear hn0;have HV:Hid ((tB1 T k || tB2 (T k) || tB3 (T k))=false):=(by show _=_;rw [e1,e2,e3];rfl);clear t e1 e2 e3 h1B h2B h3B;go_quiet (fail);go_wp2_with fail;go_meet;refine ⟨?_,_,rfl⟩;rw [HV.out]
                  · have hn1:decide (0<(T k).n)=true:=by simp;omega
                    have hn2:(0:Int)<((T k).n:Int):=(by omega);have e3:tB3 (T k)=((T k).st != 1):=(by rw [h3B.out,hn1];rfl);have HV:Hid ((tB1 T k || tB2 (T k) || tB3 (T k))=((T k).st != 1)):=(by show _=_;rw [e1,e2,e3];rfl);clear t e1 e2 e3 h1B h2B h3B;go_quiet (fail);go_wp2_with fail;go_meet;refine ⟨?_,_,rfl⟩;rw [HV.out]
            · have e2:tB2 (T k)=false:=by rw [h2B.out,hd1];rfl
              rcases Nat.eq_zero_or_pos (T k).n with hn0 | hn0
              · have hn1:decide (0<(T k).n)=false:=by simp;omega
                have e3:tB3 (T k)=false:=(by rw [h3B.out,hn1];rfl);clear hn0;have HV:Hid ((tB1 T k || tB2 (T k) || tB3 (T k))=false):=(by show _=_;rw [e1,e2,e3];rfl);clear t e1 e2 e3 h1B h2B h3B;go_quiet (fail);go_wp2_with fail;go_meet;refine ⟨?_,_,rfl⟩;rw [HV.out]
              · have hn1:decide (0<(T k).n)=true:=by simp;omega
                have hn2:(0:Int)<((T k).n:Int):=(by omega);have e3:tB3 (T k)=((T k).st != 1):=(by rw [h3B.out,hn1];rfl);have HV:Hid ((tB1 T k || tB2 (T k) || tB3 (T k))=((T k).st != 1)):=(by show _=_;rw [e1,e2,e3];rfl);clear t e1 e2 e3 h1B h2B h3B;go_quiet (fail);go_wp2_with fail;go_meet;refine ⟨?_,_,rfl⟩;rw [HV.out]
        case rest=>
          obtain ⟨rfl,m7,rfl⟩:=hcut
          obtain hb | hb:=bool_or (tB1 T k || tB2 (T k) || tB3 (T k))
          · have HE:Hid (C=1):=ffz_hit HE0.out (tF_1 HT.out hb) (by decide);rw [hb];clear HE0 hb;go_wp2_with fail;go_ret;exact ⟨ret_int HE.out.symm,below_drewN HB2.out _⟩
          · rw [hb];have HE1:Hid (tF nx ck T k=usF (T k).n (T k).U):=tF_u HT.out hb;replace x4:=cell_below x4 (below_drewN (Below.refl _ _) m7);have HUN3:=HUN2.out.below (below_drewN (Below.refl _ _) m7);have HB3:Hid (Below w.heap.size w (w5.drewN m7)):=below_drewN HB2.out _;clear hb b0 b2 x0 x1 x2 x3 HCC2 HUN2 HT;generalize w5.drewN m7=w7 at *;go_wp2_with fail;refine (l6Undos_any (T k).n (T k).U bb (off+k*5) ai ci w7 HSK.out x4 HUN3).mono ?_;rintro e w8 ⟨rfl,hb8⟩;have HB8:Hid (Below w.heap.size w w8):=below_then HB3.out hb8;clear hb8 x4 HUN3
            by_cases hu:usF (T k).n (T k).U=0
            · have HE:Hid (C=ffz (tF nx ck T) (p-(k+1)) (k+1)):=ffz_on HE0.out (HE1.out.trans hu);rw [hu];clear HE0 HE1 hu;go_wp2_with fail;go_roundw
              case rel=>exact ⟨k+1,hlt,by go_num,HE,HB8⟩
              case measure=>simp [intOf];omega
            · have HE:Hid (C=usF (T k).n (T k).U):=ffz_hit HE0.out HE1.out hu;have hu2:(usF (T k).n (T k).U != 0)=true:=(by simp [hu]);clear HE0 HE1 hu;generalize usF (T k).n (T k).U=uu at *;go_wp2_with fail;go_ret;exact ⟨ret_int HE.out.symm,HB8.out⟩
    · have HE:Hid (C=0):=by
        have h:=HC.out;rw [show p-k=0 by omega] at h;exact h
      have hnl:¬((k:Int)<(p:Int)):=(by omega);clear HC hC;go_wp2_with fail;go_ret;exact ⟨ret_int HE.out.symm,HB.out⟩
end Go.Proofs.YtjdodbiphijjgaaGreat
