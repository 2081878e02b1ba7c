import Derived.Test.YtjdodbiphijjgaaGreatJOa
import Derived.Deep.RegionLaw
import Derived.Test.YtjdodbiphijjgaaGreatJFb
import Derived.Laws.AppendOwn
import Derived.OwnWalk
namespace Go.Proofs.YtjdodbiphijjgaaGreat
open Go.RowKit Go.Deep
set_option linter.unusedVariables false
set_option maxRecDepth 20000
set_option maxHeartbeats 16000000 in
theorem implSk_any (E:En) (a:Option Addr) (cap:Nat) (a':Option Addr) (cap':Nat) (id lo hi:Int) (w:World) (hs:SmallE E) (h:EngAt w a a' E) :
    Calls Tryz.prog 198 #[.agg #[.int .i64 E.nx,.int .i64 E.ck,.slice a E.p cap,.slice a' E.q cap'],.int .i64 id,.int .i64 lo,.int .i64 hi] w (SRes (askC E id) (skQ E id lo hi) w):=by
  have HXA:Hid (EngAt w a a' E):=h;have HS:Hid (SmallE E):=hs;clear h hs
  have HBX:Hid (∀o1 o2:Obj,o1=.cells #[.int .i64 E.nx,.int .i64 E.ck,.slice a E.p cap,.slice a' E.q cap'] 30→o2=.cells #[.int .i64 0,.slice none 0 0] 196→
      Box4 ((w.alloc o1).alloc o2) w.heap.size (.int .i64 E.nx) (.int .i64 E.ck) (.slice a E.p cap) (.slice a' E.q cap')∧Box2 ((w.alloc o1).alloc o2) (w.heap.size+1) (.int .i64 0) (.slice none 0 0)∧(∀i,((w.alloc o1).alloc o2).frozen? ⟨w.heap.size+1,i,none⟩=false)∧Below w.heap.size w ((w.alloc o1).alloc o2)∧((w.alloc o1).alloc o2).heap.size=w.heap.size+2):=by
    rintro o1 o2 rfl rfl;exact ⟨(Box4.new w _ _ _ _ _).alloc _,by simp [Box2,go_sem],fun i=>by simp [go_sem],((Below.refl _ _).alloc (Nat.le_refl _) _).alloc (by simp) _,by simp⟩
  go_enter Tryz.func198,Tryz.ntmps198;go_wp2_with fail;obtain ⟨hb4,hb2,hbf,hbw,hbs⟩:=HBX.out _ _ rfl rfl;refine (placeOfOpen_any E a cap a' cap' id _ HS.out (HXA.out.below hbw)).mono ?_;rintro e W ⟨rfl,hb1⟩;have HB4:Hid (Box4 W w.heap.size (.int .i64 E.nx) (.int .i64 E.ck) (.slice a E.p cap) (.slice a' E.q cap')):=hb4.below hb1;obtain ⟨r0,r1⟩:=hb2.below hb1;have rf:∀i,W.frozen? ⟨w.heap.size+1,i,none⟩=false:=fun i=>((bcell2 hb1).2 _ _ (by rw [hbs];omega)).trans (hbf i);have HBW:Hid (Below w.heap.size w W):=below_then hbw hb1;have hs1:w.heap.size+2≤W.heap.size:=(by have:=hb1.size;rw [hbs] at this;exact this);clear hb1 hb4 hb2 hbf hbw hbs HBX
  by_cases hc:askC E id=0
  case neg=>
    have HF:Hid (∀w7,Below w.heap.size w w7→SRes (askC E id) (skQ E id lo hi) w (.returned (.agg #[.int .i64 (askC E id),.slice none 0 0])) w7):=fun w7 hb=>sres_bad hb hc;have hc2:(askC E id != 0)=true:=(by simp [hc]);clear hc;generalize askC E id=uu at *;generalize askP E id=up at *;go_wp2_with fail;refine bodyPost_ret (v:=.agg #[.int .i64 uu,.slice none 0 0]) (by simp [results,Tryz.results198,go_sem, *]) rfl ?_;refine HF.out _ ?_
    repeat (first | with_reducible exact HBW.out | with_reducible refine Below.setCell ?_ (by first | omega | (simp <;> omega)) _)
  obtain ⟨h0,j,hj,hp,-⟩:=ask_open hc;have HE:Hid (skQ E id lo hi=scL E.q E.R (E.T j).am (E.T j).id lo hi E.q):=skL_at hp;have HC0:Hid (askC E id=0):=hc;have HR12:Hid (∀i,i<E.q→(E.R i).n≤12):=rows12 h0;have HSO:Hid (∀j,j<E.q→∀i,i<j→(E.R i).key<(E.R j).key):=keys_rise (eF_good h0).2.2.2
  have HSD:Hid (∀k,k<E.q→(seC (E.R k).n (E.R k).U (E.T j).am (E.T j).id=if rdB E.q E.R (E.T j).am (E.T j).id (E.R k).key=true then 0 else 4)∧seV (E.R k).n (E.R k).U (E.T j).am (E.T j).id=rdV E.q E.R (E.T j).am (E.T j).id (E.R k).key):=fun k hk=>
    seen_rd h0 hj (.inr ⟨k,hk,fR_self HSO.out hk,rfl,rfl⟩)
  have h32:=(eF_pq h0).2;have hp20:=(eF_pq h0).1;have HRB:Hid (Box2 W (w.heap.size+1) (.int .i64 0) (.slice none 0 0)∧∀i,W.frozen? ⟨w.heap.size+1,i,none⟩=false):=⟨⟨r0,r1⟩,rf⟩;have HEX:Hid (EngAt W a a' E):=HXA.out.below HBW.out;rw [hc,hp];have b3:=HB4.out.2.2.2;have hj1:(j:Int)<(E.p:Int):=(by omega);have hj0:(0:Int)≤(j:Int):=(by omega);clear hc hp h0 r0 r1 rf;go_wp2_with fail;clear b3;go_loopw [11,13,14,28] (fun v _ _ i wr=>∃k:Nat,k≤E.q∧i=.int .i64 k∧Hid (Below W.heap.size W wr)∧Hid (wr.ownsRow W.heap.size 114 2 v (scL E.q E.R (E.T j).am (E.T j).id lo hi k).length (cb (scL E.q E.R (E.T j).am (E.T j).id lo hi k)))) (fun _ _ _ i _=>E.q-(intOf i).toNat)
  case atStart=>exact ⟨0,Nat.zero_le _,rfl,Below.refl _ _,World.ownsRow_nil _ _ _ _⟩
  case round=>
    obtain ⟨k,hk,rfl,HB,HO⟩:=hrel;have hszr:=HB.out.size
    by_cases hlt:k<E.q
    · have hlt':(k:Int)<(E.q:Int):=by omega
      have hk0:(0:Int)≤(k:Int):=(by omega);have HEX1:Hid (EngAt wr a a' E):=HEX.out.below HB.out
      rcases HEX1.out.2 with h | ⟨rb,ro,rfl,hrl,hrc⟩
      · omega
      obtain ⟨ri,rcp,⟨x0,x1⟩,hrv,-⟩:=hrc k hlt;have HVR0:Hid (VersAt wr ri (E.R k).n (E.R k).U):=hrv
      rcases HEX1.out.1 with h | ⟨bb,off,rfl,hl,hcc⟩
      · omega
      obtain ⟨ti,tc,hCT,-,-⟩:=hcc j hj
      obtain ⟨cc,hcc1⟩:∃x:Int,x=if rdB E.q E.R (E.T j).am (E.T j).id (E.R k).key=true then 0 else 4:=⟨_,rfl⟩
      obtain ⟨vv,hvv1⟩:∃x:Int,x=rdV E.q E.R (E.T j).am (E.T j).id (E.R k).key:=⟨_,rfl⟩;have HCC:Hid (cc=if rdB E.q E.R (E.T j).am (E.T j).id (E.R k).key=true then 0 else 4):=hcc1;have HVV:Hid (vv=rdV E.q E.R (E.T j).am (E.T j).id (E.R k).key):=hvv1
      have HSE:Hid (∀wx,VersAt wx ri (E.R k).n (E.R k).U→Calls Tryz.prog 100 #[.slice ri (E.R k).n rcp,.agg #[.int .i64 (E.T j).am,.int .i64 (E.T j).id]] wx fun e w'=>e=.returned (.agg #[.int .i64 cc,.int .i64 vv])∧Below wx.heap.size wx w'):=fun wx hv=>by
        have h:=implSe_any (E.R k).n (E.R k).U ri rcp (E.T j).am (E.T j).id wx (by have:=HR12.out k hlt;omega) hv;rw [(HSD.out k hlt).1,(HSD.out k hlt).2,←hcc1,←hvv1] at h;exact h
      have HB4r:=HB4.out.below HB.out;obtain ⟨W1,hW1⟩:∃x,x=wr.alloc (.cells #[.int .i64 (E.R k).key,.slice ri (E.R k).n rcp] 173):=⟨_,rfl⟩;have HBn:Hid (Below wr.heap.size wr W1):=(by rw [hW1];exact below_new _ _);have c2:=cell_below HB4r.2.2.1 HBn.out;have HQB:Hid (Box2 W1 wr.heap.size (.int .i64 (E.R k).key) (.slice ri (E.R k).n rcp)):=(by rw [hW1];exact Box2.new _ _ _ _);have q1:=HQB.out.2;have HVR:Hid (VersAt W1 ri (E.R k).n (E.R k).U):=HVR0.out.below HBn.out;have hCT1:CTx W1 bb (off+j*5) (E.T j) ti tc:=hCT.block (HBn.out.block _ hl);obtain ⟨d0,d1,d2,d3,d4⟩:=hCT1;have HLT:Hid (k<E.q):=hlt;have HSZ:Hid (W1.heap.size=wr.heap.size+1):=(by rw [hW1];exact World.size_alloc _ _);clear hcc1 hvv1 hrc hrv hcc hCT HVR0 HEX1 hrl hl HB4r hlt;go_upto_region 8 with fail;rw [←hW1];clear hW1 x0 x1;have HX:Hid (Below W1.heap.size W1 W1):=Below.refl _ _;have rq1:=fun ob:Obj=>cell_alloc q1 ob;have rc2:=fun ob:Obj=>cell_alloc c2 ob;have rd0:=fun ob:Obj=>cell_alloc d0 ob;have rd1:=fun ob:Obj=>cell_alloc d1 ob;have rd2:=fun ob:Obj=>cell_alloc d2 ob;have rd3:=fun ob:Obj=>cell_alloc d3 ob;have rd4:=fun ob:Obj=>cell_alloc d4 ob;go_cut [14] (fun p wx=>∃B:Nat,p=.pointer (some ⟨B,0,none⟩)∧Hid (Box2 wx B (.int .i64 cc) (.int .i64 vv))∧Hid (Below W1.heap.size W1 wx))
      case first=>
        go_region_law (first | (go_simp;go_at_call 102;refine (viewOf_any (E.T j) ti tc _).mono ?_;rintro e wv ⟨rfl,hb⟩;have HX:Hid (Below W1.heap.size W1 wv):=below_then (by have hq1:=HX.out.size;repeat (first | exact HX.out | apply Below.drew | refine Below.alloc ?_ (by first | omega | (simp <;> omega)) _)) hb;have hswv:W1.heap.size≤wv.heap.size:=HX.out.size;have yq1:=cell_below q1 HX.out;have zq1:=fun ob:Obj=>cell_alloc yq1 ob;have yc2:=cell_below c2 HX.out;have zc2:=fun ob:Obj=>cell_alloc yc2 ob;have yd0:=cell_below d0 HX.out;have zd0:=fun ob:Obj=>cell_alloc yd0 ob;have yd1:=cell_below d1 HX.out;have zd1:=fun ob:Obj=>cell_alloc yd1 ob;have yd2:=cell_below d2 HX.out;have zd2:=fun ob:Obj=>cell_alloc yd2 ob;have yd3:=cell_below d3 HX.out;have zd3:=fun ob:Obj=>cell_alloc yd3 ob;have yd4:=cell_below d4 HX.out;have zd4:=fun ob:Obj=>cell_alloc yd4 ob;(first | (have zz:BoxR wv W1.heap.size (.int .i64 0) (.int .i64 0):=(BoxR.new W1.drew (.int .i64 0) (.int .i64 0) 84).below hb) | (have zz:=(BoxR.new _ (.int .i64 0) (.int .i64 0) 84).below hb) | (have zz:=zz.below hb) | (have zz:=(zz.below (below_new _ _)).below hb) | skip);(first | (have zy:=zz;obtain ⟨z0,z1,zf⟩:=zy) | skip);clear hb) | (go_simp;go_at_call 100;refine (HSE.out _ (HVR.out.below (by have hq1:=HX.out.size;repeat (first | exact HX.out | apply Below.drew | refine Below.alloc ?_ (by first | omega | (simp <;> omega)) _)))).mono ?_;rintro e ws ⟨rfl,hb⟩;have HX:Hid (Below W1.heap.size W1 ws):=below_then (by have hq1:=HX.out.size;repeat (first | exact HX.out | apply Below.drew | refine Below.alloc ?_ (by first | omega | (simp <;> omega)) _)) hb;have hsws:W1.heap.size≤ws.heap.size:=HX.out.size;have yq1:=cell_below q1 HX.out;have zq1:=fun ob:Obj=>cell_alloc yq1 ob;have yc2:=cell_below c2 HX.out;have zc2:=fun ob:Obj=>cell_alloc yc2 ob;have yd0:=cell_below d0 HX.out;have zd0:=fun ob:Obj=>cell_alloc yd0 ob;have yd1:=cell_below d1 HX.out;have zd1:=fun ob:Obj=>cell_alloc yd1 ob;have yd2:=cell_below d2 HX.out;have zd2:=fun ob:Obj=>cell_alloc yd2 ob;have yd3:=cell_below d3 HX.out;have zd3:=fun ob:Obj=>cell_alloc yd3 ob;have yd4:=cell_below d4 HX.out;have zd4:=fun ob:Obj=>cell_alloc yd4 ob;(first | (have zz:BoxR ws W1.heap.size (.int .i64 0) (.int .i64 0):=(BoxR.new W1.drew (.int .i64 0) (.int .i64 0) 84).below hb) | (have zz:=(BoxR.new _ (.int .i64 0) (.int .i64 0) 84).below hb) | (have zz:=zz.below hb) | (have zz:=(zz.below (below_new _ _)).below hb) | skip);(first | (have zy:=zz;obtain ⟨z0,z1,zf⟩:=zy) | skip);clear hb))
        all_goals
          go_wp2_with fail;go_meet;exact ⟨_,rfl,by simp [Hid,Box2,go_sem, *],by repeat (first | exact HX.out | apply Below.drew | refine Below.setCell ?_ (by first | omega | (simp <;> omega)) _ | refine Below.alloc ?_ (by first | omega | (simp <;> omega)) _)⟩
      case rest=>
        obtain ⟨B,rfl,HBB,HBc⟩:=hcut;have HBC:Hid (Below W.heap.size W wc):=below_then (below_then HB.out HBn.out) HBc.out;have HO1:=own_belowI (own_belowI HO.out HBn.out) HBc.out;obtain ⟨s0,s1⟩:=HBB.out;have u0:=cell_below HQB.out.1 HBc.out;have hszc:=HBC.out.size;clear HBB HBc HX HB HO HQB HVR HSE HBn HSZ q1 c2 d0 d1 d2 d3 d4 rq1 rc2 rd0 rd1 rd2 rd3 rd4
        obtain hs | hs:=bool_or2 (scB E.q E.R (E.T j).am (E.T j).id lo hi k)
        · have HE1:Hid (scL E.q E.R (E.T j).am (E.T j).id lo hi (k+1)=scL E.q E.R (E.T j).am (E.T j).id lo hi k ++ [((E.R k).key,vv)]):=by rw [HVV.out];exact if_pos hs
          unfold scB at hs;rw [Bool.and_eq_true] at hs;obtain ⟨g1,g2⟩:=hs;have h0:cc=0:=(by rw [HCC.out];exact if_pos g1);subst h0;have HLK:Hid ((scL E.q E.R (E.T j).am (E.T j).id lo hi k).length≤100000):=(by have:=scL_len E.q E.R (E.T j).am (E.T j).id lo hi k;show _≤_;omega);have HOA:Hid (∀o1:Obj,(wc.alloc o1).ownsRow W.heap.size 114 2 _ (scL E.q E.R (E.T j).am (E.T j).id lo hi k).length (cb (scL E.q E.R (E.T j).am (E.T j).id lo hi k))):=fun o1=>own_belowI HO1 (below_new _ _);clear g1 HO1 HCC HVV;generalize scL E.q E.R (E.T j).am (E.T j).id lo hi k=zs at *;go_wp2_with (first | (go_at_call 145;refine (within_any _ _ _ _).mono ?_;rintro e w' ⟨rfl,hw'⟩;rw [hw'];clear hw') | (at_builtin;refine wpList_appC _ rfl (.tmp 51) (.tmp 57) rfl W.heap.size _ zs rfl (HOA.out _) wc.heap.size 0 1 ((E.R k).key,vv) rfl (by simp [go_sem]) (by simp [go_sem]) (by simp;omega) HLK.out ?_));intro v2 w3 ho3 hg3
          have HB3:Hid (Below W.heap.size W w3):=by
            refine (below_then HBC.out (below_new _ _)).grown hg3 (by simp;omega) fun q hq=>?_;exact ((HOA.out (.cells #[.int .i64 (E.R k).key,.int .i64 vv] 114)).lt q hq).1
          have HO3:Hid (w3.ownsRow W.heap.size 114 2 v2 (scL E.q E.R (E.T j).am (E.T j).id lo hi (k+1)).length (cb (scL E.q E.R (E.T j).am (E.T j).id lo hi (k+1)))):=by
            show w3.ownsRow _ _ _ _ _ _;rw [HE1.out]
            first | exact ho3 | simpa using ho3
          clear ho3 hg3 HOA s0 s1 u0;go_wp2_with fail;go_roundw
          case rel=>exact ⟨k+1,HLT.out,by go_num,HB3,HO3⟩
          case measure=>simp [intOf];omega
        · have HE1:Hid (scL E.q E.R (E.T j).am (E.T j).id lo hi (k+1)=scL E.q E.R (E.T j).am (E.T j).id lo hi k):=if_neg (by simp [hs]);rw [←HE1.out] at HO1;have HO3:Hid (wc.ownsRow _ _ _ _ _ _):=HO1;unfold scB at hs;clear HO1
          obtain g2 | g2:=bool_or2 (inB (E.R k).key lo hi)
          · rw [g2,Bool.and_true] at hs;have h0:cc=4:=(by rw [HCC.out];exact if_neg (by simp [hs]));subst h0;clear hs HCC HVV;go_wp2_with (first | (go_at_call 145;refine (within_any _ _ _ _).mono ?_;rintro e w' ⟨rfl,hw'⟩;rw [hw'];clear hw'));go_roundw
            case rel=>exact ⟨k+1,HLT.out,by go_num,HBC,HO3⟩
            case measure=>simp [intOf];omega
          · clear hs HCC HVV;go_wp2_with (first | (go_at_call 145;refine (within_any _ _ _ _).mono ?_;rintro e w' ⟨rfl,hw'⟩;rw [hw'];clear hw'));go_roundw
            case rel=>exact ⟨k+1,HLT.out,by go_num,HBC,HO3⟩
            case measure=>simp [intOf];omega
    · have hkn:k=E.q:=by omega
      have hnl:¬((k:Int)<(E.q:Int)):=(by omega);obtain ⟨va,vc,rfl,-⟩:=ownC_of_row HO.out
      have HF:Hid (∀w7,Writes (w.heap.size+1) (w.heap.size+2) wr w7→w7.heap.size=wr.heap.size→SRes (askC E id) (skQ E id lo hi) w (.returned (.agg #[.int .i64 0,.slice va (scL E.q E.R (E.T j).am (E.T j).id lo hi k).length vc])) w7):=fun w7 hw hs7=>by
        have hO:=HO.out;rw [HE.out];rw [hkn] at hO ⊢;exact sres_ok HC0.out (below_then HBW.out HB.out) (by omega) (by omega) hs1 hO hw hs7
      obtain ⟨⟨r0,r1⟩,rf⟩:=HRB.out;replace rf:∀i,wr.frozen? ⟨w.heap.size+1,i,none⟩=false:=fun i=>((bcell2 HB.out).2 _ _ (by omega)).trans (rf i);replace r0:=cell_below r0 HB.out;replace r1:=cell_below r1 HB.out;clear HO HB hkn HRB;generalize (scL E.q E.R (E.T j).am (E.T j).id lo hi k).length=len at *;go_wp2_with fail;refine bodyPost_ret (v:=.agg #[.int .i64 0,.slice va len vc]) (by simp [results,Tryz.results198,go_sem, *]) rfl ?_;refine HF.out _ ?_ (by simp [World.setCell])
      repeat (first | with_reducible exact Writes.refl _ _ _ | with_reducible refine Writes.setCell ?_ (by first | omega | (simp <;> omega)) (by first | omega | (simp <;> omega)) _)
def v4 (r:Vr):List Value:=[.int .i64 r.t,.int .i64 r.a,.bool r.g,.int .i64 r.v]
def vb:List Vr→List Value
  | []=>[]
  | r :: rs=>v4 r ++ vb rs
theorem vb_len:∀xs,(vb xs).length=xs.length*4
  | []=>rfl
  | r :: rs=>by simp only [vb,List.length_append,vb_len rs,v4,List.length_cons,List.length_nil];omega
theorem vb_app:∀xs ys,vb (xs ++ ys)=vb xs ++ vb ys
  | [],ys=>rfl
  | r :: rs,ys=>by simp only [vb,List.cons_append,vb_app rs ys,List.append_assoc]
theorem vb_get:∀(xs:List Vr) (i j:Nat) (r:Vr),xs[i]? = some r→j<4→(vb xs)[i*4+j]? = (v4 r)[j]?
  | [],i,j,r,h,_=>by simp at h
  | x :: xs,0,j,r,h,hj=>by
    simp only [List.getElem?_cons_zero,Option.some.injEq] at h;subst h;simp only [vb];rw [List.getElem?_append_left (by simp [v4];omega)]
    congr 1;omega
  | x :: xs,i+1,j,r,h,hj=>by
    simp only [List.getElem?_cons_succ] at h;simp only [vb];rw [List.getElem?_append_right (by simp [v4];omega)];have:=vb_get xs i j r h hj;rw [←this]
    congr 1
    simp [v4];omega
theorem vb_one:∀xs,∀u ∈ vb xs,u.oneCell'=true
  | [],u,h=>by simp [vb] at h
  | r :: rs,u,h=>by
    simp only [vb,List.mem_append] at h
    rcases h with h | h
    · simp [v4] at h
      rcases h with rfl | rfl | rfl | rfl <;> rfl
    · exact vb_one rs u h
def vL (R:Nat→Vr) (n:Nat):List Vr:=(List.range n).map R
theorem vL_len (R:Nat→Vr) (n:Nat):(vL R n).length=n:=by simp [vL]
theorem vL_get {R:Nat→Vr} {n i:Nat} (h:i<n):(vL R n)[i]? = some (R i):=by simp [vL,h]
theorem own4_of_row {w:World} {base n:Nat} {a:Option Addr} {cap:Nat} {xs:List Vr} (hl:xs.length=n) (h:w.ownsRow base 179 4 (.slice a n cap) n (vb xs)):Own4 w base w.heap.size a n (fun i=>xs.getD i zV):=by
  rcases h.2 with ⟨e,h0⟩ | ⟨g,cap',cur,e,hbg,hg,_⟩
  · exact ⟨Nat.le_refl _,.inl h0⟩
  · simp only [Value.slice.injEq,true_and] at e;obtain ⟨rfl,rfl⟩:=e
    have hlt:g<w.heap.size:=by
      obtain ⟨hlt,_⟩:=Array.getElem?_eq_some_iff.1 hg;exact hlt
    refine ⟨Nat.le_refl _,.inr ⟨g,0,rfl,hbg,hlt,fun i hi=>?_,fun i=>h.frozenAt _⟩⟩;obtain ⟨r,hr⟩:∃r,xs[i]? = some r:=⟨xs[i]'(by omega),by simp [hl,hi]⟩;have er:xs.getD i zV=r:=(by rw [List.getD_eq_getElem?_getD,hr];rfl);show C4 w g (0+i*4) (xs.getD i zV);rw [er]
    have c:∀j v,j<4→(v4 r)[j]? = some v→w.cell? ⟨g,0+i*4+j,none⟩=some v:=fun j v hj hv=>by
      rw [h.cellAt (0+i*4+j) (by omega),show 0+i*4+j=i*4+j by omega,vb_get xs i j r hr hj,hv]
    exact ⟨c 0 _ (by omega) rfl,c 1 _ (by omega) rfl,c 2 _ (by omega) rfl,c 3 _ (by omega) rfl⟩
theorem row_slice {w:World} {base n:Nat} {v:Value} {xs:List Value} (h:w.ownsRow base 179 4 v n xs):∃a cap,v=.slice a n cap∧n≤cap:=by
  rcases h.2 with ⟨rfl,h0⟩ | ⟨g,cap,cur,rfl,_,_,h9,_⟩
  · exact ⟨none,0,by rw [h0],by omega⟩
  · exact ⟨_,cap,rfl,by omega⟩
theorem run_app_zeroV (w:World) (ty:TypeId) (ba:Option Addr) (n c:Nat) (xa:Option Addr) (xc:Nat) (h:n≤c) :
    (Builtin.append_ #[155,155] ty #[.slice ba n c,.slice xa 0 xc]).run Tryz.prog w=.ok (.slice ba n c) w:=by
  cases ba <;> cases xa <;> simp [Builtin.append_,go_sem,h,Builtin.firstCells,storeCells]
theorem grown_refl (w:World) (r:Option Nat):w.grownBy w r:=⟨rfl,rfl,rfl,Nat.le_refl _,fun _ _ _=>rfl⟩
theorem wp_appV {o:Oper} {a:Act} {K:Act→World→Prop} {Q:Exit→Act→World→Prop} (w:World) (s x:Operand)
    (ho:o.op=.call { callee:=.builtin .append,args:=#[s,x],argTypes:=#[155,155] })
    (base:Nat) (v:Value) (xs:List Vr) (hs:a.eval s=v) (hown:w.ownsRow base 179 4 v xs.length (vb xs))
    (xa:Option Addr) (m c:Nat) (R:Nat→Vr) (hx:a.eval x=.slice xa m c) (hb:VersAt w xa m R) (h63:xs.length+m≤100000) (hbase:base≤w.heap.size)
    (h:∀v' w',w'.ownsRow base 179 4 v' (xs ++ vL R m).length (vb (xs ++ vL R m))→w.grownBy w' v.ownBlock→K (a.put o.dst v') w'):o.wp Tryz.prog a w K Q:=by
  by_cases hm:m=0
  · subst hm;obtain ⟨ba,cap,rfl,hcap⟩:=row_slice hown;have hr:=run_app_zeroV w o.type ba xs.length cap xa c hcap;unfold Oper.wp execOp;simp only [ho,resolve,invoke,builtin,Sem.run_bind,Sem.run_pure,Result.andThen_ok,List.map_toArray,List.map_cons,List.map_nil,hs,hx,hr];refine h _ w ?_ (grown_refl _ _);have e:xs ++ vL R 0=xs:=(by simp [vL]);rw [e];exact hown
  · rcases hb with hb | ⟨b,off,rfl,hbl,hc⟩
    · exact absurd hb hm
    · obtain ⟨i0,hi,hz0,hz1,hz2⟩:=info_parts infoV;refine wp_append_own w s x 155 ho base 179 i0 _ 4 32 Tryz.underlying155 hi hz0 hz1 hz2 rfl (by decide) v xs.length (vb xs) hs hown ⟨b,off,none⟩ m c (vb (vL R m)) hx (by rw [vb_len,vL_len]) (fun j u hj=>?_) (vb_one _) (by unfold maxLen;omega) (by omega) hbase fun v' w' h2 h3 _=>h v' w' ?_ h3
      · have hjl:j<m*4:=by
          have:=(List.getElem?_eq_some_iff.1 hj).1
          rwa [vb_len,vL_len] at this
        have hg:=vb_get (vL R m) (j / 4) (j % 4) (R (j / 4)) (vL_get (by omega)) (by omega);rw [show j / 4*4+j % 4=j by omega,hj] at hg;rw [WideShapes.add_plain];obtain ⟨c0,c1,c2,c3⟩:=hc (j / 4) (by omega);have hd:j % 4=0∨j % 4=1∨j % 4=2∨j % 4=3:=(by omega)
        rcases hd with e | e | e | e
        · rw [e] at hg;rw [show off+j=off+j / 4*4 by omega,c0,hg];rfl
        · rw [e] at hg;rw [show off+j=off+j / 4*4+1 by omega,c1,hg];rfl
        · rw [e] at hg;rw [show off+j=off+j / 4*4+2 by omega,c2,hg];rfl
        · rw [e] at hg;rw [show off+j=off+j / 4*4+3 by omega,c3,hg];rfl
      · rw [List.length_append,vL_len,vb_app];exact h2
theorem wpList_appV {ops:Array Oper} {rest:List Oper} {o:Oper} {a:Act} {Q:Exit→Act→World→Prop} (w:World) (hgd:o.guard=none) (s x:Operand)
    (ho:o.op=.call { callee:=.builtin .append,args:=#[s,x],argTypes:=#[155,155] })
    (base:Nat) (v:Value) (xs:List Vr) (hs:a.eval s=v) (hown:w.ownsRow base 179 4 v xs.length (vb xs))
    (xa:Option Addr) (m c:Nat) (R:Nat→Vr) (hx:a.eval x=.slice xa m c) (hb:VersAt w xa m R) (h63:xs.length+m≤100000) (hbase:base≤w.heap.size)
    (h:∀v' w',w'.ownsRow base 179 4 v' (xs ++ vL R m).length (vb (xs ++ vL R m))→w.grownBy w' v.ownBlock→wpList Tryz.prog ops Q rest (a.put o.dst v') w'):wpList Tryz.prog ops Q (o :: rest) a w:=
  wpList_plain hgd fun _ hK=>wp_appV w s x ho base v xs hs hown xa m c R hx hb h63 hbase fun v' w' h2 h3=>hK _ _ (h v' w' h2 h3)
def jv (N:Nat→Nat) (Z:Nat→Nat→Vr):Nat→List Vr
  | 0=>[]
  | k+1=>jv N Z k ++ vL (Z k) (N k)
theorem jv_len (N:Nat→Nat) (Z:Nat→Nat→Vr):∀k,(∀i,i<k→N i≤100)→(jv N Z k).length≤k*100
  | 0,_=>by simp [jv]
  | k+1,h=>by
    have h1:=jv_len N Z k (fun i hi=>h i (by omega));have h2:=h k (by omega);simp only [jv,List.length_append,vL_len];omega
end Go.Proofs.YtjdodbiphijjgaaGreat
