import Derived.Test.YtjdodbiphijjgaaGreatQVc
import Derived.Test.YtjdodbiphijjgaaGreatQBox
namespace Go.Proofs.YtjdodbiphijjgaaGreat
open Go.ChangeShapes Go.WideShapes Go.ChangeAt Go.RowKit Go.Deep Go.Joins
set_option linter.unusedVariables false
set_option maxRecDepth 20000
open Go.RowKit Go.Deep
set_option linter.unusedSimpArgs false
theorem openVers_cap {H:Type} {enc:TypeId × Value→H} {W:World} {fuel:Nat} {cs:List Value} {x:DataW H × List MemPlace}
    (h:DataW.trod enc Tryz.prog W 0 (fun _=>true) true fuel 168 cs=some x) :
    ∃(a:Option Addr) (n cap:Nat) (R:Nat→Vr),cs=[.slice a n cap]∧n≤9223372036854775807∧VersAt W a n R∧n≤cap:=by
  rcases open_slice Tryz.underlying168 h with ⟨rfl,_⟩ | ⟨a,l,c,m,nn,D,Pl,rfl,_,hl,hm,hmm,_,hx⟩
  · exact ⟨none,0,0,fun _=>zV,rfl,by omega,.inl rfl,Nat.le_refl _⟩
  · have hmc:m=c:=by simpa using hmm
    unfold maxLen at hm;rw [cellsVer] at hx
    have each:∀i,i<l→∃q:(Int × Int) × (Bool × Int),W.cell? (a.add (i*4))=some (.int .i64 q.1.1)∧W.cell? (a.add (i*4+1))=some (.int .i64 q.1.2)∧W.cell? (a.add (i*4+2))=some (.bool q.2.1)∧W.cell? (a.add (i*4+3))=some (.int .i64 q.2.2):=fun i hi=>by
      obtain ⟨cs',h1,h2⟩:=hx i (by omega);obtain ⟨_,hlen,hcell⟩:=World.cells?_some h1;obtain ⟨xs,k,hk,hxy,_,hxl,hf⟩:=DataW.trod_struct Tryz.underlying265 h2
      match xs,hxl,cs',hlen with
      | [y0,y1,y2,y3],_,[v0,v1,v2,v3],_=>
        have g0:=hf 0 _ rfl;have g1:=hf 1 _ rfl;have g2:=hf 2 _ rfl;have g3:=hf 3 _ rfl;simp [cellsI,cellsB] at g0 g1 g2 g3;have e0:=hcell 0 (by omega);have e1:=hcell 1 (by omega);have e2:=hcell 2 (by omega);have e3:=hcell 3 (by omega);rw [add_add] at e0 e1 e2 e3;obtain ⟨z0,f0,_,_⟩:=DataW.trod_int Tryz.underlying2 g0;obtain ⟨z1,f1,_,_⟩:=DataW.trod_int Tryz.underlying2 g1;obtain ⟨z2,f2,_⟩:=DataW.trod_bool Tryz.underlying4 g2;obtain ⟨z3,f3,_,_⟩:=DataW.trod_int Tryz.underlying2 g3;simp at f0 f1 f2 f3;subst f0 f1 f2 f3;exact ⟨((z0,z1),(z2,z3)),by simpa using e0,by simpa using e1,by simpa using e2,by simpa using e3⟩
    obtain ⟨q,hq⟩:=choose_lt each;refine ⟨some a,l,c,fun i=>⟨(q i).1.1,(q i).1.2,(q i).2.1,(q i).2.2⟩,rfl,by omega,?_,hl⟩
    by_cases hz0:l=0
    · exact .inl hz0
    · obtain ⟨b,off,spot⟩:=a;have hc0:=(hq 0 (by omega)).1;have hspot:spot=none:=(by simpa [Addr.add] using World.cell?_spot hc0);subst hspot;refine .inr ⟨b,off,rfl,Go.block_lt_of_cell hc0,fun i hi=>?_⟩;obtain ⟨k0,k1,k2,k3⟩:=hq i hi;rw [add_plain] at k0 k1 k2 k3;exact ⟨k0,by rw [Nat.add_assoc];exact k1,by rw [Nat.add_assoc];exact k2,by rw [Nat.add_assoc];exact k3⟩
theorem eqRow_same (key:Int) (n:Nat) (R:Nat→Vr) (a a':Option Addr) (cap cap':Nat) (w:World) (hn:n≤1048576) (h:VersAt w a n R) (h':VersAt w a' n R) :
    Calls Tryz.prog 124 #[.agg #[.int .i64 key,.slice a n cap],.agg #[.int .i64 key,.slice a' n cap']] w fun e w'=>e=.returned (.bool true)∧Below w.heap.size w w':=by
  have HA:Hid (VersAt w a n R):=h;have HA':Hid (VersAt w a' n R):=h';clear h h';go_enter Tryz.func124,Tryz.ntmps124;go_wp2_with fail;have hb0:∀o1 o2,Below w.heap.size w ((w.alloc o1).alloc o2):=fun o1 o2=>(((Below.refl _ _).alloc (Nat.le_refl _) _).alloc (by simp) _);refine (eqVersionS_any n R a a' cap cap' _ hn (HA.out.below (hb0 _ _)) (HA'.out.below (hb0 _ _))).mono ?_;rintro e w' ⟨rfl,hb⟩;have HB:Hid (Below w.heap.size w w'):=below_then (hb0 _ _) hb;clear hb hb0;go_wp2_with fail;go_ret;exact ⟨rfl,HB.out⟩
set_option maxHeartbeats 2000000 in
theorem eqRowS_any (n:Nat) (T:Nat→Rw) (a a':Option Addr) (cap cap':Nat) (w:World) (hn:n≤1048576) (hL:∀i,i<n→(T i).n≤1048576) (h:RwsAt w a n T) (h':RwsAt w a' n T) :
    Calls Tryz.prog 68 #[.slice a n cap,.slice a' n cap'] w fun e w'=>e=.returned (.bool true)∧Below w.heap.size w w':=by
  have HL:Hid (∀i,i<n→(T i).n≤1048576):=hL;have HA:Hid (RwsAt w a n T):=h;have HA':Hid (RwsAt w a' n T):=h';have hne:((n:Int) != (n:Int))=false:=(by simp);clear hL h h';go_enter Tryz.func68,Tryz.ntmps68;go_wp2_with fail;go_loopw [5] (fun i wr=>∃k:Nat,k≤n∧i=.int .i64 k∧Hid (Below w.heap.size w wr)) (fun i _=>n-(intOf i).toNat)
  case atStart=>exact ⟨0,Nat.zero_le _,rfl,Below.refl _ _⟩
  case round=>
    obtain ⟨k,hk,rfl,HB⟩:=hrel
    by_cases hlt:k<n
    · have hlt':(k:Int)<(n:Int):=by omega
      have hk0:(0:Int)≤(k:Int):=(by omega)
      rcases HA.out.below HB.out with h | ⟨b,off,rfl,hl,hc⟩
      · omega
      rcases HA'.out.below HB.out with h | ⟨b',off',rfl,hl',hc'⟩
      · omega
      obtain ⟨ai,ci,⟨q0,q1⟩,hy,-⟩:=hc k hlt;obtain ⟨ai',ci',⟨y0,y1⟩,hy',-⟩:=hc' k hlt;have HY:Hid (VersAt wr ai (T k).n (T k).U):=hy;have HY':Hid (VersAt wr ai' (T k).n (T k).U):=hy';have HN:Hid ((T k).n≤1048576):=HL.out k hlt;clear hc hc' hy hy';generalize T k=t at *;go_wp2_with fail;go_region_law (first | (go_simp;go_at_call 124;refine (eqRow_same t.key t.n t.U ai ai' ci ci' _ HN.out (HY.out.below ((Below.refl _ _).drew)) (HY'.out.below ((Below.refl _ _).drew))).mono ?_;rintro e w1 ⟨rfl,hb1⟩;have HB1:Hid (Below w.heap.size w w1):=below_then HB.out (drewB6 hb1)))
      all_goals
        go_wp2_with fail;go_roundw
        case rel=>exact ⟨k+1,hlt,by go_num,HB1⟩
        case measure=>simp [intOf];omega
    · have hnl:¬((k:Int)<(n:Int)):=by omega
      go_wp2_with fail;go_ret;exact ⟨rfl,HB.out⟩
def sRw (T:Nat→Rw) (i:Nat):Nat:=smf (fun i=>(T i).n*4+1) i
theorem sRw_eq (T:Nat→Rw) (i:Nat):sRw T i=smRw T i*4+i*1:=smf_add _ _ _ _
def mRw (m:Int) (T:Nat→Rw) (i:Nat):Rw:=⟨m+sRw T i,(T i).n,mV (m+sRw T i+1)⟩
set_option maxHeartbeats 2000000 in
theorem markRowS_any (n:Nat) (T:Nat→Rw) (a:Option Addr) (cap lo hi:Nat) (m:Int) (w:World) (hn:n≤1048576) (hs:smRw T n≤1048576) (hm1:0≤m) (hm2:m≤16777216) (h:OwnRw w lo hi a n T) :
    Calls Tryz.prog 70 #[.slice a n cap,.int .i64 m] w fun e w'=>e=.returned (.int .i64 (m+sRw T n))∧Writes lo hi w w'∧OwnRw w' lo hi a n (mRw m T):=by
  have HO:Hid (OwnRw w lo hi a n T):=h;clear h;go_enter Tryz.func70,Tryz.ntmps70;go_wp2;go_loopw [1,5] (fun q i wr=>∃k:Nat,k≤n∧i=.int .i64 k∧q=.int .i64 (m+sRw T k)∧Hid (Writes lo hi w wr)∧Hid (OwnRw wr lo hi a n (pref (mRw m T) T k))) (fun _ i _=>n-(intOf i).toNat)
  case atStart=>exact ⟨0,Nat.zero_le _,rfl,by simp [sRw,smf],Writes.refl _ _ _,by rw [pref_zero];exact HO⟩
  case round=>
    obtain ⟨k,hk0,rfl,rfl,HB,HP⟩:=hrel
    by_cases hlt:k<n
    · obtain ⟨b,off,ai,ci,l,h,rfl,hb1,hb2,hf,hC,hci,hbd,hr,hO,hU⟩:=HP.out.pick hlt;rw [pref_at] at hC hci hO hU;have hLk:=smf_ge (fun i=>(T i).n) n k hlt;have hsk:=smf_le (fun i=>(T i).n) (n:=n) (i:=k) (by omega);have hstep:(sRw T (k+1):Int)=sRw T k+(T k).n*4+1:=(by simp [sRw,smf];omega);have hbS:sRw T k=smRw T k*4+k*1:=sRw_eq T k;have HM:Hid (mRw m T k=⟨m+sRw T k,(T k).n,mV (m+sRw T k+1)⟩):=rfl;have hSb:(sRw T k:Int)≤5242880:=(by unfold smRw at *;omega);have hS0:0≤(sRw T k:Int):=(by omega);have hTk:(T k).n≤1048576:=(by unfold smRw at *;omega);generalize hS:(sRw T k:Int)=S at *;have HU:Hid (∀t w1,t.n=(T k).n→Writes l h (hdRw wr b (off+k*2) t) w1→Own4 w1 l h ai t.n t.U→OwnRw w1 lo hi (some ⟨b,off,none⟩) n (upf (pref (mRw m T) T k) k t)):=hU;have HO2:Hid (Own4 (hdRw wr b (off+k*2) ⟨m+S,(T k).n,mV (m+S+1)⟩) l h ai (T k).n (T k).U):=hO.writes (hdRw_writes (Writes.refl _ _ _) (Nat.le_refl _) (Nat.lt_succ_self _)) (by omega);have HG:Hid (lo≤b∧b<hi∧(b<l∨h≤b)∧(h=0∨lo≤l∧h≤hi)):=⟨hb1,hb2,hbd,hr⟩;obtain ⟨q0,q1⟩:=hC;have g1:IntKind.i64.wrap (m+S+1)=m+S+1:=(by rw [IntKind.wrap_i64];omega);clear HP hO hU hb1 hb2 hbd hr hbS hS hLk hsk;go_wp2_with fail;refine (markVersionS_any (T k).n (T k).U ai ci l h (m+S+1) _ (by omega) (by omega) (by omega) HO2.out).mono ?_;rintro e w1 ⟨rfl,hw,hr⟩;have HW:Hid (Writes l h (hdRw wr b (off+k*2) ⟨m+S,(T k).n,mV (m+S+1)⟩) w1):=hw;have HR1:Hid (Own4 w1 l h ai (T k).n (mV (m+S+1))):=hr;clear hw hr;go_wp2_with fail;go_roundw
      case rel=>
        have H:=HU.out ⟨m+S,(T k).n,mV (m+S+1)⟩ w1 rfl HW.out HR1.out;rw [←HM.out,pref_upf] at H;obtain ⟨g1,g2,g3,g4⟩:=HG.out;refine ⟨k+1,hlt,by go_num,by rw [hstep];go_num,HB.out.trans ((hdRw_writes (w:=wr) (wr:=wr) (b:=b) (o:=off+k*2) (t:=⟨m+S,(T k).n,mV (m+S+1)⟩) (Writes.refl _ _ _) g1 g2).trans ?_),H⟩;exact ⟨HW.out.os,HW.out.tape,HW.out.output,HW.out.size,fun q hq hd=>HW.out.block q hq (by omega)⟩
      case measure=>simp [intOf];omega
    · have hkn:k=n:=by omega
      have HO2:Hid (OwnRw wr lo hi a n (mRw m T)):=HP.out.congr fun i hi=>pref_lt _ _ (by omega);have hnl:¬((k:Int)<(n:Int)):=(by omega);go_wp2_with fail;go_ret;exact ⟨ret_int (by first | rfl | rw [hkn]),HB.out,HO2.out⟩
set_option maxHeartbeats 2000000 in
theorem heldRowS_any (n:Nat) (T:Nat→Rw) (a:Option Addr) (cap:Nat) (m:Int) (w:World) (hn:n≤1048576) (hs:smRw T n≤1048576) (hm1:0≤m) (hm2:m≤16777216) (h:RwsAt w a n (mRw m T)) :
    Calls Tryz.prog 128 #[.slice a n cap,.int .i64 m] w fun e w'=>e=.returned (.int .i64 (m+sRw T n))∧w'=w:=by
  have HA:Hid (RwsAt w a n (mRw m T)):=h;clear h;go_enter Tryz.func128,Tryz.ntmps128;go_wp2;go_loop [1,5] (fun q i=>∃k:Nat,k≤n∧i=.int .i64 k∧q=.int .i64 (m+sRw T k)) (fun _ i=>n-(intOf i).toNat)
  case atStart=>exact ⟨0,Nat.zero_le _,rfl,by simp [sRw,smf]⟩
  case round=>
    obtain ⟨k,hk0,rfl,rfl⟩:=hrel
    by_cases hlt:k<n
    · rcases HA.out with h | ⟨b,off,rfl,hl,hc⟩
      · omega
      obtain ⟨ai,ci,⟨q0,q1⟩,hy,-⟩:=hc k hlt;unfold mRw at q0 q1;dsimp only at q0 q1;have HY:Hid (VersAt w ai (T k).n (mV (m+sRw T k+1))):=hy;have hLk:=smf_ge (fun i=>(T i).n) n k hlt;have hsk:=smf_le (fun i=>(T i).n) (n:=n) (i:=k) (by omega);have hstep:(sRw T (k+1):Int)=sRw T k+(T k).n*4+1:=(by simp [sRw,smf];omega);have hbS:sRw T k=smRw T k*4+k*1:=sRw_eq T k;have hSb:(sRw T k:Int)≤5242880:=(by unfold smRw at *;omega);have hS0:0≤(sRw T k:Int):=(by omega);have hTk:(T k).n≤1048576:=(by unfold smRw at *;omega);generalize hS:(sRw T k:Int)=S at *;have hneg:¬(m+S+1+((T k).n:Int)*4<0):=(by omega);have g1:IntKind.i64.wrap (m+S+1)=m+S+1:=(by rw [IntKind.wrap_i64];omega);clear hc hy hbS hS hLk hsk;go_wp2_with fail;refine (heldVersionS_any (T k).n ai ci (m+S+1) _ (by omega) (by omega) (by omega) HY.out).mono ?_;rintro e w' ⟨rfl,rfl⟩;go_wp2_with fail;go_round
      case rel=>exact ⟨k+1,hlt,by go_num,by rw [hstep];go_num⟩
      case measure=>simp [intOf];omega
    · have hkn:k=n:=by omega
      have hnl:¬((k:Int)<(n:Int)):=(by omega);go_wp2_with fail;go_ret;exact ⟨ret_int (by first | rfl | rw [hkn]),rfl⟩
theorem cellsRw:Tryz.prog.cellsOf 170=2:=by kernel_rfl
theorem cellsInRw:Tryz.prog.cellsOf 168=1:=by kernel_rfl
theorem openRws {H:Type} {enc:TypeId × Value→H} {W:World} {fuel:Nat} {cs:List Value} {x:DataW H × List MemPlace}
    (h:DataW.trod enc Tryz.prog W 0 (fun _=>true) true fuel 23 cs=some x) :
    ∃(a:Option Addr) (n cap:Nat) (T:Nat→Rw),cs=[.slice a n cap]∧n≤9223372036854775807∧(∀i,i<n→(T i).n≤9223372036854775807)∧RwsAt W a n T:=by
  rcases open_slice Tryz.underlying23 h with ⟨rfl,_⟩ | ⟨a,l,c,m,nn,D,Pl,rfl,_,hl,hm,hmm,_,hx⟩
  · exact ⟨none,0,0,fun _=>zRw,rfl,by omega,fun i hi=>by omega,.inl rfl⟩
  · have hmc:m=c:=by simpa using hmm
    unfold maxLen at hm;rw [cellsRw] at hx
    have each:∀i,i<l→∃q:(Int) × (Option Addr × Nat) × (Nat × (Nat→Vr)),W.cell? (a.add (i*2))=some (.int .i64 q.1)∧W.cell? (a.add (i*2+1))=some (.slice q.2.1.1 q.2.2.1 q.2.1.2)∧q.2.2.1≤9223372036854775807∧VersAt W q.2.1.1 q.2.2.1 q.2.2.2∧q.2.2.1≤q.2.1.2:=fun i hi=>by
      obtain ⟨cs',h1,h2⟩:=hx i (by omega);obtain ⟨_,hlen,hcell⟩:=World.cells?_some h1;obtain ⟨xs,k,hk,hxy,_,hxl,hf⟩:=DataW.trod_struct Tryz.underlying170 h2
      match xs,hxl,cs',hlen with
      | [y0,y1],_,[v0,v1],_=>
        have g0:=hf 0 _ rfl;have g1:=hf 1 _ rfl;simp [cellsI,cellsInRw] at g0 g1;have e0:=hcell 0 (by omega);have e1:=hcell 1 (by omega);rw [add_add] at e0 e1;obtain ⟨z0,f0,_,_⟩:=DataW.trod_int Tryz.underlying2 g0;obtain ⟨a',n',c',z',f1,k1,k2,k4⟩:=openVers_cap g1;simp at f0 f1;subst f0 f1;exact ⟨(z0,(a',c'),(n',z')),by simpa using e0,by simpa using e1,k1,k2,k4⟩
    have nonE:Inhabited Vr:=⟨zV⟩;obtain ⟨q,hq⟩:=choose_lt each;refine ⟨some a,l,c,fun i=>⟨(q i).1,(q i).2.2.1,(q i).2.2.2⟩,rfl,by omega,fun i hi=>(hq i hi).2.2.1,?_⟩
    by_cases hz0:l=0
    · exact .inl hz0
    · obtain ⟨b,off,spot⟩:=a;have hc0:=(hq 0 (by omega)).1;have hspot:spot=none:=(by simpa [Addr.add] using World.cell?_spot hc0);subst hspot;refine .inr ⟨b,off,rfl,Go.block_lt_of_cell hc0,fun i hi=>?_⟩;obtain ⟨k0,k1,_,kb,kc⟩:=hq i hi;rw [add_plain] at k0 k1;exact ⟨(q i).2.1.1,(q i).2.1.2,⟨k0,by rw [Nat.add_assoc];exact k1⟩,kb,kc⟩
theorem openUnds_cap {H:Type} {enc:TypeId × Value→H} {W:World} {fuel:Nat} {cs:List Value} {x:DataW H × List MemPlace}
    (h:DataW.trod enc Tryz.prog W 0 (fun _=>true) true fuel 164 cs=some x) :
    ∃(a:Option Addr) (n cap:Nat) (R:Nat→Ud),cs=[.slice a n cap]∧n≤9223372036854775807∧UndsAt W a n R∧n≤cap:=by
  rcases open_slice Tryz.underlying164 h with ⟨rfl,_⟩ | ⟨a,l,c,m,nn,D,Pl,rfl,_,hl,hm,hmm,_,hx⟩
  · exact ⟨none,0,0,fun _=>zU,rfl,by omega,.inl rfl,Nat.le_refl _⟩
  · have hmc:m=c:=by simpa using hmm
    unfold maxLen at hm;rw [cellsUnd] at hx
    have each:∀i,i<l→∃q:(Int × Bool) × (Bool × Int),W.cell? (a.add (i*4))=some (.int .i64 q.1.1)∧W.cell? (a.add (i*4+1))=some (.bool q.1.2)∧W.cell? (a.add (i*4+2))=some (.bool q.2.1)∧W.cell? (a.add (i*4+3))=some (.int .i64 q.2.2):=fun i hi=>by
      obtain ⟨cs',h1,h2⟩:=hx i (by omega);obtain ⟨_,hlen,hcell⟩:=World.cells?_some h1;obtain ⟨xs,k,hk,hxy,_,hxl,hf⟩:=DataW.trod_struct Tryz.underlying263 h2
      match xs,hxl,cs',hlen with
      | [y0,y1,y2,y3],_,[v0,v1,v2,v3],_=>
        have g0:=hf 0 _ rfl;have g1:=hf 1 _ rfl;have g2:=hf 2 _ rfl;have g3:=hf 3 _ rfl;simp [cellsI,cellsB] at g0 g1 g2 g3;have e0:=hcell 0 (by omega);have e1:=hcell 1 (by omega);have e2:=hcell 2 (by omega);have e3:=hcell 3 (by omega);rw [add_add] at e0 e1 e2 e3;obtain ⟨z0,f0,_,_⟩:=DataW.trod_int Tryz.underlying2 g0;obtain ⟨z1,f1,_⟩:=DataW.trod_bool Tryz.underlying4 g1;obtain ⟨z2,f2,_⟩:=DataW.trod_bool Tryz.underlying4 g2;obtain ⟨z3,f3,_,_⟩:=DataW.trod_int Tryz.underlying2 g3;simp at f0 f1 f2 f3;subst f0 f1 f2 f3;exact ⟨((z0,z1),(z2,z3)),by simpa using e0,by simpa using e1,by simpa using e2,by simpa using e3⟩
    obtain ⟨q,hq⟩:=choose_lt each;refine ⟨some a,l,c,fun i=>⟨(q i).1.1,(q i).1.2,(q i).2.1,(q i).2.2⟩,rfl,by omega,?_,hl⟩
    by_cases hz0:l=0
    · exact .inl hz0
    · obtain ⟨b,off,spot⟩:=a;have hc0:=(hq 0 (by omega)).1;have hspot:spot=none:=(by simpa [Addr.add] using World.cell?_spot hc0);subst hspot;refine .inr ⟨b,off,rfl,Go.block_lt_of_cell hc0,fun i hi=>?_⟩;obtain ⟨k0,k1,k2,k3⟩:=hq i hi;rw [add_plain] at k0 k1 k2 k3;exact ⟨k0,by rw [Nat.add_assoc];exact k1,by rw [Nat.add_assoc];exact k2,by rw [Nat.add_assoc];exact k3⟩
theorem eqTxn_same (id am st dn:Int) (n:Nat) (R:Nat→Ud) (a a':Option Addr) (cap cap':Nat) (w:World) (hn:n≤1048576) (h:UndsAt w a n R) (h':UndsAt w a' n R) :
    Calls Tryz.prog 123 #[.agg #[.int .i64 id,.int .i64 am,.int .i64 st,.int .i64 dn,.slice a n cap],.agg #[.int .i64 id,.int .i64 am,.int .i64 st,.int .i64 dn,.slice a' n cap']] w fun e w'=>e=.returned (.bool true)∧Below w.heap.size w w':=by
  have HA:Hid (UndsAt w a n R):=h;have HA':Hid (UndsAt w a' n R):=h';clear h h';go_enter Tryz.func123,Tryz.ntmps123;go_wp2_with fail;have hb0:∀o1 o2,Below w.heap.size w ((w.alloc o1).alloc o2):=fun o1 o2=>(((Below.refl _ _).alloc (Nat.le_refl _) _).alloc (by simp) _);refine (eqUndoS_any n R a a' cap cap' _ hn (HA.out.below (hb0 _ _)) (HA'.out.below (hb0 _ _))).mono ?_;rintro e w' ⟨rfl,hb⟩;have HB:Hid (Below w.heap.size w w'):=below_then (hb0 _ _) hb;clear hb hb0;go_wp2_with fail;go_ret;exact ⟨rfl,HB.out⟩
set_option maxHeartbeats 2000000 in
theorem eqTxnS_any (n:Nat) (T:Nat→Tx) (a a':Option Addr) (cap cap':Nat) (w:World) (hn:n≤1048576) (hL:∀i,i<n→(T i).n≤1048576) (h:TxsAt w a n T) (h':TxsAt w a' n T) :
    Calls Tryz.prog 67 #[.slice a n cap,.slice a' n cap'] w fun e w'=>e=.returned (.bool true)∧Below w.heap.size w w':=by
  have HL:Hid (∀i,i<n→(T i).n≤1048576):=hL;have HA:Hid (TxsAt w a n T):=h;have HA':Hid (TxsAt w a' n T):=h';have hne:((n:Int) != (n:Int))=false:=(by simp);clear hL h h';go_enter Tryz.func67,Tryz.ntmps67;go_wp2_with fail;go_loopw [5] (fun i wr=>∃k:Nat,k≤n∧i=.int .i64 k∧Hid (Below w.heap.size w wr)) (fun i _=>n-(intOf i).toNat)
  case atStart=>exact ⟨0,Nat.zero_le _,rfl,Below.refl _ _⟩
  case round=>
    obtain ⟨k,hk,rfl,HB⟩:=hrel
    by_cases hlt:k<n
    · have hlt':(k:Int)<(n:Int):=by omega
      have hk0:(0:Int)≤(k:Int):=(by omega)
      rcases HA.out.below HB.out with h | ⟨b,off,rfl,hl,hc⟩
      · omega
      rcases HA'.out.below HB.out with h | ⟨b',off',rfl,hl',hc'⟩
      · omega
      obtain ⟨ai,ci,⟨q0,q1,q2,q3,q4⟩,hy,-⟩:=hc k hlt;obtain ⟨ai',ci',⟨y0,y1,y2,y3,y4⟩,hy',-⟩:=hc' k hlt;have HY:Hid (UndsAt wr ai (T k).n (T k).U):=hy;have HY':Hid (UndsAt wr ai' (T k).n (T k).U):=hy';have HN:Hid ((T k).n≤1048576):=HL.out k hlt;clear hc hc' hy hy';generalize T k=t at *;go_wp2_with fail;go_region_law (first | (go_simp;go_at_call 123;refine (eqTxn_same t.id t.am t.st t.dn t.n t.U ai ai' ci ci' _ HN.out (HY.out.below ((Below.refl _ _).drew)) (HY'.out.below ((Below.refl _ _).drew))).mono ?_;rintro e w1 ⟨rfl,hb1⟩;have HB1:Hid (Below w.heap.size w w1):=below_then HB.out (drewB6 hb1)))
      all_goals
        go_wp2_with fail;go_roundw
        case rel=>exact ⟨k+1,hlt,by go_num,HB1⟩
        case measure=>simp [intOf];omega
    · have hnl:¬((k:Int)<(n:Int)):=by omega
      go_wp2_with fail;go_ret;exact ⟨rfl,HB.out⟩
def sTx (T:Nat→Tx) (i:Nat):Nat:=smf (fun i=>(T i).n*4+4) i
theorem sTx_eq (T:Nat→Tx) (i:Nat):sTx T i=smTx T i*4+i*4:=smf_add _ _ _ _
def mTx (m:Int) (T:Nat→Tx) (i:Nat):Tx:=⟨m+sTx T i,m+sTx T i+1,m+sTx T i+2,m+sTx T i+3,(T i).n,mU (m+sTx T i+4)⟩
set_option maxHeartbeats 2000000 in
theorem markTxnS_any (n:Nat) (T:Nat→Tx) (a:Option Addr) (cap lo hi:Nat) (m:Int) (w:World) (hn:n≤1048576) (hs:smTx T n≤1048576) (hm1:0≤m) (hm2:m≤16777216) (h:OwnTx w lo hi a n T) :
    Calls Tryz.prog 69 #[.slice a n cap,.int .i64 m] w fun e w'=>e=.returned (.int .i64 (m+sTx T n))∧Writes lo hi w w'∧OwnTx w' lo hi a n (mTx m T):=by
  have HO:Hid (OwnTx w lo hi a n T):=h;clear h;go_enter Tryz.func69,Tryz.ntmps69;go_wp2;go_loopw [1,5] (fun q i wr=>∃k:Nat,k≤n∧i=.int .i64 k∧q=.int .i64 (m+sTx T k)∧Hid (Writes lo hi w wr)∧Hid (OwnTx wr lo hi a n (pref (mTx m T) T k))) (fun _ i _=>n-(intOf i).toNat)
  case atStart=>exact ⟨0,Nat.zero_le _,rfl,by simp [sTx,smf],Writes.refl _ _ _,by rw [pref_zero];exact HO⟩
  case round=>
    obtain ⟨k,hk0,rfl,rfl,HB,HP⟩:=hrel
    by_cases hlt:k<n
    · obtain ⟨b,off,ai,ci,l,h,rfl,hb1,hb2,hf,hC,hci,hbd,hr,hO,hU⟩:=HP.out.pick hlt;rw [pref_at] at hC hci hO hU;have hLk:=smf_ge (fun i=>(T i).n) n k hlt;have hsk:=smf_le (fun i=>(T i).n) (n:=n) (i:=k) (by omega);have hstep:(sTx T (k+1):Int)=sTx T k+(T k).n*4+4:=(by simp [sTx,smf];omega);have hbS:sTx T k=smTx T k*4+k*4:=sTx_eq T k;have HM:Hid (mTx m T k=⟨m+sTx T k,m+sTx T k+1,m+sTx T k+2,m+sTx T k+3,(T k).n,mU (m+sTx T k+4)⟩):=rfl;have hSb:(sTx T k:Int)≤8388608:=(by unfold smTx at *;omega);have hS0:0≤(sTx T k:Int):=(by omega);have hTk:(T k).n≤1048576:=(by unfold smTx at *;omega);generalize hS:(sTx T k:Int)=S at *;have HU:Hid (∀t w1,t.n=(T k).n→Writes l h (hdTx wr b (off+k*5) t) w1→OwnU w1 l h ai t.n t.U→OwnTx w1 lo hi (some ⟨b,off,none⟩) n (upf (pref (mTx m T) T k) k t)):=hU;have HO2:Hid (OwnU (hdTx wr b (off+k*5) ⟨m+S,m+S+1,m+S+2,m+S+3,(T k).n,mU (m+S+4)⟩) l h ai (T k).n (T k).U):=hO.writes (hdTx_writes (Writes.refl _ _ _) (Nat.le_refl _) (Nat.lt_succ_self _)) (by omega);have HG:Hid (lo≤b∧b<hi∧(b<l∨h≤b)∧(h=0∨lo≤l∧h≤hi)):=⟨hb1,hb2,hbd,hr⟩;obtain ⟨q0,q1,q2,q3,q4⟩:=hC;have g1:IntKind.i64.wrap (m+S+1)=m+S+1:=(by rw [IntKind.wrap_i64];omega);have g2:IntKind.i64.wrap (m+S+1+1)=m+S+2:=(by rw [IntKind.wrap_i64];omega);have g3:IntKind.i64.wrap (m+S+2+1)=m+S+3:=(by rw [IntKind.wrap_i64];omega);have g4:IntKind.i64.wrap (m+S+3+1)=m+S+4:=(by rw [IntKind.wrap_i64];omega);clear HP hO hU hb1 hb2 hbd hr hbS hS hLk hsk;go_wp2_with fail;refine (markUndoS_any (T k).n (T k).U ai ci l h (m+S+4) _ (by omega) (by omega) (by omega) HO2.out).mono ?_;rintro e w1 ⟨rfl,hw,hr⟩;have HW:Hid (Writes l h (hdTx wr b (off+k*5) ⟨m+S,m+S+1,m+S+2,m+S+3,(T k).n,mU (m+S+4)⟩) w1):=hw;have HR1:Hid (OwnU w1 l h ai (T k).n (mU (m+S+4))):=hr;clear hw hr;go_wp2_with fail;go_roundw
      case rel=>
        have H:=HU.out ⟨m+S,m+S+1,m+S+2,m+S+3,(T k).n,mU (m+S+4)⟩ w1 rfl HW.out HR1.out;rw [←HM.out,pref_upf] at H;obtain ⟨g1,g2,g3,g4⟩:=HG.out;refine ⟨k+1,hlt,by go_num,by rw [hstep];go_num,HB.out.trans ((hdTx_writes (w:=wr) (wr:=wr) (b:=b) (o:=off+k*5) (t:=⟨m+S,m+S+1,m+S+2,m+S+3,(T k).n,mU (m+S+4)⟩) (Writes.refl _ _ _) g1 g2).trans ?_),H⟩;exact ⟨HW.out.os,HW.out.tape,HW.out.output,HW.out.size,fun q hq hd=>HW.out.block q hq (by omega)⟩
      case measure=>simp [intOf];omega
    · have hkn:k=n:=by omega
      have HO2:Hid (OwnTx wr lo hi a n (mTx m T)):=HP.out.congr fun i hi=>pref_lt _ _ (by omega);have hnl:¬((k:Int)<(n:Int)):=(by omega);go_wp2_with fail;go_ret;exact ⟨ret_int (by first | rfl | rw [hkn]),HB.out,HO2.out⟩
set_option maxHeartbeats 2000000 in
theorem heldTxnS_any (n:Nat) (T:Nat→Tx) (a:Option Addr) (cap:Nat) (m:Int) (w:World) (hn:n≤1048576) (hs:smTx T n≤1048576) (hm1:0≤m) (hm2:m≤16777216) (h:TxsAt w a n (mTx m T)) :
    Calls Tryz.prog 127 #[.slice a n cap,.int .i64 m] w fun e w'=>e=.returned (.int .i64 (m+sTx T n))∧w'=w:=by
  have HA:Hid (TxsAt w a n (mTx m T)):=h;clear h;go_enter Tryz.func127,Tryz.ntmps127;go_wp2;go_loop [1,5] (fun q i=>∃k:Nat,k≤n∧i=.int .i64 k∧q=.int .i64 (m+sTx T k)) (fun _ i=>n-(intOf i).toNat)
  case atStart=>exact ⟨0,Nat.zero_le _,rfl,by simp [sTx,smf]⟩
  case round=>
    obtain ⟨k,hk0,rfl,rfl⟩:=hrel
    by_cases hlt:k<n
    · rcases HA.out with h | ⟨b,off,rfl,hl,hc⟩
      · omega
      obtain ⟨ai,ci,⟨q0,q1,q2,q3,q4⟩,hy,-⟩:=hc k hlt;unfold mTx at q0 q1 q2 q3 q4;dsimp only at q0 q1 q2 q3 q4;have HY:Hid (UndsAt w ai (T k).n (mU (m+sTx T k+4))):=hy;have hLk:=smf_ge (fun i=>(T i).n) n k hlt;have hsk:=smf_le (fun i=>(T i).n) (n:=n) (i:=k) (by omega);have hstep:(sTx T (k+1):Int)=sTx T k+(T k).n*4+4:=(by simp [sTx,smf];omega);have hbS:sTx T k=smTx T k*4+k*4:=sTx_eq T k;have hSb:(sTx T k:Int)≤8388608:=(by unfold smTx at *;omega);have hS0:0≤(sTx T k:Int):=(by omega);have hTk:(T k).n≤1048576:=(by unfold smTx at *;omega);generalize hS:(sTx T k:Int)=S at *;have hneg:¬(m+S+4+((T k).n:Int)*4<0):=(by omega);have g1:IntKind.i64.wrap (m+S+1)=m+S+1:=(by rw [IntKind.wrap_i64];omega);have g2:IntKind.i64.wrap (m+S+1+1)=m+S+2:=(by rw [IntKind.wrap_i64];omega);have g3:IntKind.i64.wrap (m+S+2+1)=m+S+3:=(by rw [IntKind.wrap_i64];omega);have g4:IntKind.i64.wrap (m+S+3+1)=m+S+4:=(by rw [IntKind.wrap_i64];omega);clear hc hy hbS hS hLk hsk;go_wp2_with fail;refine (heldUndoS_any (T k).n ai ci (m+S+4) _ (by omega) (by omega) (by omega) HY.out).mono ?_;rintro e w' ⟨rfl,rfl⟩;go_wp2_with fail;go_round
      case rel=>exact ⟨k+1,hlt,by go_num,by rw [hstep];go_num⟩
      case measure=>simp [intOf];omega
    · have hkn:k=n:=by omega
      have hnl:¬((k:Int)<(n:Int)):=(by omega);go_wp2_with fail;go_ret;exact ⟨ret_int (by first | rfl | rw [hkn]),rfl⟩
theorem cellsTx:Tryz.prog.cellsOf 166=5:=by kernel_rfl
theorem cellsInTx:Tryz.prog.cellsOf 164=1:=by kernel_rfl
theorem openTxs {H:Type} {enc:TypeId × Value→H} {W:World} {fuel:Nat} {cs:List Value} {x:DataW H × List MemPlace}
    (h:DataW.trod enc Tryz.prog W 0 (fun _=>true) true fuel 22 cs=some x) :
    ∃(a:Option Addr) (n cap:Nat) (T:Nat→Tx),cs=[.slice a n cap]∧n≤9223372036854775807∧(∀i,i<n→(T i).n≤9223372036854775807)∧TxsAt W a n T:=by
  rcases open_slice Tryz.underlying22 h with ⟨rfl,_⟩ | ⟨a,l,c,m,nn,D,Pl,rfl,_,hl,hm,hmm,_,hx⟩
  · exact ⟨none,0,0,fun _=>zTx,rfl,by omega,fun i hi=>by omega,.inl rfl⟩
  · have hmc:m=c:=by simpa using hmm
    unfold maxLen at hm;rw [cellsTx] at hx
    have each:∀i,i<l→∃q:(Int × Int × Int × Int) × (Option Addr × Nat) × (Nat × (Nat→Ud)),W.cell? (a.add (i*5))=some (.int .i64 q.1.1)∧W.cell? (a.add (i*5+1))=some (.int .i64 q.1.2.1)∧W.cell? (a.add (i*5+2))=some (.int .i64 q.1.2.2.1)∧W.cell? (a.add (i*5+3))=some (.int .i64 q.1.2.2.2)∧W.cell? (a.add (i*5+4))=some (.slice q.2.1.1 q.2.2.1 q.2.1.2)∧q.2.2.1≤9223372036854775807∧UndsAt W q.2.1.1 q.2.2.1 q.2.2.2∧q.2.2.1≤q.2.1.2:=fun i hi=>by
      obtain ⟨cs',h1,h2⟩:=hx i (by omega);obtain ⟨_,hlen,hcell⟩:=World.cells?_some h1;obtain ⟨xs,k,hk,hxy,_,hxl,hf⟩:=DataW.trod_struct Tryz.underlying166 h2
      match xs,hxl,cs',hlen with
      | [y0,y1,y2,y3,y4],_,[v0,v1,v2,v3,v4],_=>
        have g0:=hf 0 _ rfl;have g1:=hf 1 _ rfl;have g2:=hf 2 _ rfl;have g3:=hf 3 _ rfl;have g4:=hf 4 _ rfl;simp [cellsI,cellsInTx] at g0 g1 g2 g3 g4;have e0:=hcell 0 (by omega);have e1:=hcell 1 (by omega);have e2:=hcell 2 (by omega);have e3:=hcell 3 (by omega);have e4:=hcell 4 (by omega);rw [add_add] at e0 e1 e2 e3 e4;obtain ⟨z0,f0,_,_⟩:=DataW.trod_int Tryz.underlying2 g0;obtain ⟨z1,f1,_,_⟩:=DataW.trod_int Tryz.underlying2 g1;obtain ⟨z2,f2,_,_⟩:=DataW.trod_int Tryz.underlying2 g2;obtain ⟨z3,f3,_,_⟩:=DataW.trod_int Tryz.underlying2 g3;obtain ⟨a',n',c',z',f4,k1,k2,k4⟩:=openUnds_cap g4;simp at f0 f1 f2 f3 f4;subst f0 f1 f2 f3 f4;exact ⟨((z0,z1,z2,z3),(a',c'),(n',z')),by simpa using e0,by simpa using e1,by simpa using e2,by simpa using e3,by simpa using e4,k1,k2,k4⟩
    have nonE:Inhabited Ud:=⟨zU⟩;obtain ⟨q,hq⟩:=choose_lt each;refine ⟨some a,l,c,fun i=>⟨(q i).1.1,(q i).1.2.1,(q i).1.2.2.1,(q i).1.2.2.2,(q i).2.2.1,(q i).2.2.2⟩,rfl,by omega,fun i hi=>(hq i hi).2.2.2.2.2.1,?_⟩
    by_cases hz0:l=0
    · exact .inl hz0
    · obtain ⟨b,off,spot⟩:=a;have hc0:=(hq 0 (by omega)).1;have hspot:spot=none:=(by simpa [Addr.add] using World.cell?_spot hc0);subst hspot;refine .inr ⟨b,off,rfl,Go.block_lt_of_cell hc0,fun i hi=>?_⟩;obtain ⟨k0,k1,k2,k3,k4,_,kb,kc⟩:=hq i hi;rw [add_plain] at k0 k1 k2 k3 k4;exact ⟨(q i).2.1.1,(q i).2.1.2,⟨k0,by rw [Nat.add_assoc];exact k1,by rw [Nat.add_assoc];exact k2,by rw [Nat.add_assoc];exact k3,by rw [Nat.add_assoc];exact k4⟩,kb,kc⟩
structure En where
  nx:Int
  ck:Int
  p:Nat
  T:Nat→Tx
  q:Nat
  R:Nat→Rw
def EngAt (w:World) (a a':Option Addr) (E:En):Prop:=TxsAt w a E.p E.T∧RwsAt w a' E.q E.R
theorem EngAt.below {w w':World} {a a':Option Addr} {E:En} (h:EngAt w a a' E) (hb:Below w.heap.size w w'):EngAt w' a a' E:=⟨h.1.below hb,h.2.below hb⟩
def OwnE (w:World) (lo hi:Nat) (a a':Option Addr) (E:En):Prop:=
  hi≤w.heap.size∧∃l1 h1 l2 h2,lo≤l1∧h1≤hi∧lo≤l2∧h2≤hi∧(h1≤l2∨h2≤l1)∧OwnTx w l1 h1 a E.p E.T∧OwnRw w l2 h2 a' E.q E.R
theorem OwnE.at {w:World} {lo hi:Nat} {a a':Option Addr} {E:En} (h:OwnE w lo hi a a' E):EngAt w a a' E:=by
  obtain ⟨_,l1,h1,l2,h2,_,_,_,_,_,hp,hl⟩:=h;exact ⟨hp.at,hl.at⟩
theorem OwnE.writes {w w':World} {lo hi lo' hi':Nat} {a a':Option Addr} {E:En} (h:OwnE w lo hi a a' E) (hw:Writes lo' hi' w w') (hd:hi≤lo'∨hi'≤lo):OwnE w' lo hi a a' E:=by
  obtain ⟨h0,l1,h1,l2,h2,k1,k2,k3,k4,k5,hp,hl⟩:=h;exact ⟨Nat.le_trans h0 hw.size,l1,h1,l2,h2,k1,k2,k3,k4,k5,hp.writes hw (by omega),hl.writes hw (by omega)⟩
theorem OwnE.below {w w':World} {lo hi:Nat} {a a':Option Addr} {E:En} (h:OwnE w lo hi a a' E) (hb:Below w.heap.size w w'):OwnE w' lo hi a a' E:=
  h.writes (Writes.of_below (lo:=hi) (hi:=hi) hb) (.inl (Nat.le_refl _))
theorem OwnE.wide {w:World} {lo hi lo' hi':Nat} {a a':Option Addr} {E:En} (h:OwnE w lo hi a a' E) (e1:lo'≤lo) (e2:hi≤hi') (e3:hi'≤w.heap.size):OwnE w lo' hi' a a' E:=by
  obtain ⟨h0,l1,h1,l2,h2,k1,k2,k3,k4,k5,hp,hl⟩:=h;exact ⟨e3,l1,h1,l2,h2,by omega,by omega,by omega,by omega,k5,hp,hl⟩
theorem OwnE.mk' {w:World} {lo hi l1 h1 l2 h2:Nat} {a a':Option Addr} {E:En} (e0:hi≤w.heap.size) (e1:lo≤l1) (e2:h1≤hi) (e3:lo≤l2) (e4:h2≤hi) (e5:h1≤l2∨h2≤l1) (hp:OwnTx w l1 h1 a E.p E.T) (hl:OwnRw w l2 h2 a' E.q E.R):OwnE w lo hi a a' E:=
  ⟨e0,l1,h1,l2,h2,e1,e2,e3,e4,e5,hp,hl⟩
structure SmallE (E:En):Prop where
  p:E.p≤1048576
  q:E.q≤1048576
  t:∀i,i<E.p→(E.T i).n≤1048576
  r:∀i,i<E.q→(E.R i).n≤1048576
  st:smTx E.T E.p≤1048576
  sr:smRw E.R E.q≤1048576
theorem smallE_of {E:En} (h:0≤(1048576:Int)-E.p-smTx E.T E.p-E.q-smRw E.R E.q):SmallE E:=
  ⟨by omega,by omega,fun i hi=>by have:=smf_ge (fun i=>(E.T i).n) E.p i hi;unfold smTx at h;omega,fun i hi=>by have:=smf_ge (fun i=>(E.R i).n) E.q i hi;unfold smRw at h;omega,by omega,by omega⟩
theorem Writes.wide2 {lo hi lo' hi':Nat} {w w':World} (h:Writes lo hi w w') (e1:lo'≤lo) (e2:hi≤hi'):Writes lo' hi' w w':=
  ⟨h.os,h.tape,h.output,h.size,fun k hk hd=>h.block k hk (by omega)⟩
set_option maxHeartbeats 1000000 in
theorem szEngine_any (E:En) (a a':Option Addr) (cap cap':Nat) (w:World) (hn:E.p≤9223372036854775807) (hL:∀i,i<E.p→(E.T i).n≤9223372036854775807) (hm:E.q≤9223372036854775807) (hL':∀i,i<E.q→(E.R i).n≤9223372036854775807) (h:EngAt w a a' E) :
    Calls Tryz.prog 9 #[.agg #[.int .i64 E.nx,.int .i64 E.ck,.slice a E.p cap,.slice a' E.q cap'],.int .i64 1048576] w fun e w'=>Below w.heap.size w w'∧∃r:Int,e=.returned (.int .i64 r)∧(r=-1∨(0≤r∧r=1048576-E.p-smTx E.T E.p-E.q-smRw E.R E.q)):=by
  have HL:Hid (∀i,i<E.p→(E.T i).n≤9223372036854775807):=hL;have HL':Hid (∀i,i<E.q→(E.R i).n≤9223372036854775807):=hL';have HA:Hid (EngAt w a a' E):=h;clear hL hL' h;go_enter Tryz.func9,Tryz.ntmps9;go_wp2_with fail;refine (szTxnS_any E.p E.T a cap 1048576 _ hn HL.out (by omega) (by omega) (HA.out.1.below (below_new _ _))).mono ?_;rintro e w1 ⟨hb1,r,rfl,hr⟩;have HB1:Hid (Below w.heap.size w w1):=below_then (below_new _ _) hb1;have q3:w1.cell? ⟨w.heap.size,3,none⟩=some (.slice a' E.q cap'):=(by rw [(bcell2 hb1).1 _ _ (by simp)];simp [go_sem]);clear hb1
  rcases hr with rfl | ⟨hr0,hr1⟩
  · go_wp2_with fail;go_ret;exact ⟨HB1.out,_,rfl,.inl rfl⟩
  · have hr2:r≤1048576:=by omega
    have HR:Hid (r=1048576-E.p-smTx E.T E.p):=hr1;clear hr1;have hrn:¬(r<0):=(by omega);go_wp2_with fail;refine (szRowS_any E.q E.R a' cap' r _ hm HL'.out hr0 hr2 (HA.out.2.below HB1.out)).mono ?_;rintro e w2 ⟨hb,s,rfl,hs⟩;have HB:=below_then HB1.out hb
    rcases hs with rfl | ⟨hs0,hs1⟩
    · go_wp2_with fail;go_ret;exact ⟨HB,_,rfl,.inl rfl⟩
    · have HS:Hid (s=r-E.q-smRw E.R E.q):=hs1;clear hs1;have hsn:¬(s<0):=(by omega);go_wp2_with fail;go_ret;exact ⟨HB,_,rfl,.inr ⟨hs0,by rw [HS.out,HR.out]⟩⟩
set_option maxHeartbeats 4000000 in
theorem toEngine_any (E:En) (a a':Option Addr) (cap cap':Nat) (w:World) (hs:SmallE E) (h:EngAt w a a' E) :
    Calls Tryz.prog 11 #[.agg #[.int .i64 E.nx,.int .i64 E.ck,.slice a E.p cap,.slice a' E.q cap']] w fun e w'=>
      ∃b b',e=.returned (.agg #[.int .i64 E.nx,.int .i64 E.ck,.slice (some ⟨b,0,none⟩) E.p E.p,.slice (some ⟨b',0,none⟩) E.q E.q])∧Below w.heap.size w w'∧OwnE w' w.heap.size w'.heap.size (some ⟨b,0,none⟩) (some ⟨b',0,none⟩) E:=by
  have HS:Hid (SmallE E):=hs;obtain ⟨nx,ck,n,TT,m,RR⟩:=E;obtain ⟨h1,h2⟩:=h;dsimp only at *;have HA:Hid (TxsAt w a n TT):=h1;have HA':Hid (RwsAt w a' m RR):=h2;clear h1 h2 hs;go_enter Tryz.func11,Tryz.ntmps11;go_wp2_with fail;have hb0:∀o1 o2 o3,Below w.heap.size w (((w.alloc o1).alloc o2).alloc o3):=fun o1 o2 o3=>(((Below.refl _ _).alloc (Nat.le_refl _) _).alloc (by simp) _).alloc (by simp;omega) _;refine (toTxnS_any n TT a cap _ HS.out.p HS.out.t (HA.out.below (hb0 _ _ _))).mono ?_;rintro e w1 ⟨rfl,hb1,ho1⟩;obtain ⟨hc,hf⟩:=bcell2 hb1;have hz:w.heap.size+2<w1.heap.size:=(by have:=hb1.size;simp at this;omega)
  have e3:∀o1 o2 o3:Obj,(((w.alloc o1).alloc o2).alloc o3).heap.size=w.heap.size+3:=fun _ _ _=>by simp
  have q1:w1.cell? ⟨w.heap.size,3,none⟩=some (.slice a' m cap'):=(by rw [hc _ _ (by simp <;> omega)];simp [go_sem]);have r0:w1.cell? ⟨w.heap.size+1,0,none⟩=some (.int .i64 0):=(by rw [hc _ _ (by simp <;> omega)];simp [go_sem]);have r1:w1.cell? ⟨w.heap.size+1,1,none⟩=some (.int .i64 0):=(by rw [hc _ _ (by simp <;> omega)];simp [go_sem]);have r2:w1.cell? ⟨w.heap.size+1,2,none⟩=some (.slice none 0 0):=(by rw [hc _ _ (by simp <;> omega)];simp [go_sem]);have r3:w1.cell? ⟨w.heap.size+1,3,none⟩=some (.slice none 0 0):=(by rw [hc _ _ (by simp <;> omega)];simp [go_sem]);have s0:w1.cell? ⟨w.heap.size+2,0,none⟩=some (.int .i64 nx):=(by rw [hc _ _ (by simp <;> omega)];simp [go_sem]);have s1:w1.cell? ⟨w.heap.size+2,1,none⟩=some (.int .i64 ck):=(by rw [hc _ _ (by simp <;> omega)];simp [go_sem]);have s2:w1.cell? ⟨w.heap.size+2,2,none⟩=some (.slice none 0 0):=(by rw [hc _ _ (by simp <;> omega)];simp [go_sem]);have s3:w1.cell? ⟨w.heap.size+2,3,none⟩=some (.slice none 0 0):=(by rw [hc _ _ (by simp <;> omega)];simp [go_sem])
  have f1:∀i,w1.frozen? ⟨w.heap.size+1,i,none⟩=false:=fun i=>by rw [hf _ _ (by simp <;> omega)];simp [go_sem]
  have f2:∀i,w1.frozen? ⟨w.heap.size+2,i,none⟩=false:=fun i=>by rw [hf _ _ (by simp <;> omega)];simp [go_sem]
  have HB:Hid (Below w.heap.size w w1):=below_then (hb0 _ _ _) hb1;have HO:Hid (OwnTx w1 (w.heap.size+3) w1.heap.size (some ⟨w.heap.size+3,0,none⟩) n TT):=(by rw [e3] at ho1;exact ho1);clear hc hf hb1 ho1 hb0 e3;go_wp2_with fail;have HB':Hid (Below w.heap.size w (w1.setCell ⟨w.heap.size+1+1,2,none⟩ (.slice (some ⟨w.heap.size+1+1+1,0,none⟩) n n))):=HB.out.setCell (by simp <;> omega) _;refine (toRowS_any m RR a' cap' _ HS.out.q HS.out.r (HA'.out.below HB'.out)).mono ?_;rintro e w2 ⟨rfl,hb2,ho2⟩;obtain ⟨hc,hf⟩:=bcell2 hb2;have es:(w1.setCell ⟨w.heap.size+1+1,2,none⟩ (.slice (some ⟨w.heap.size+1+1+1,0,none⟩) n n)).heap.size=w1.heap.size:=(by simp [World.setCell]);rw [es] at hc hf;have t0:w2.cell? ⟨w.heap.size+1,0,none⟩=some (.int .i64 0):=(by rw [hc _ _ (by omega)];rw [World.cell?_setCell_other _ _ _ _ (by simp),r0]);have t1:w2.cell? ⟨w.heap.size+1,1,none⟩=some (.int .i64 0):=(by rw [hc _ _ (by omega)];rw [World.cell?_setCell_other _ _ _ _ (by simp),r1]);have t2:w2.cell? ⟨w.heap.size+1,2,none⟩=some (.slice none 0 0):=(by rw [hc _ _ (by omega)];rw [World.cell?_setCell_other _ _ _ _ (by simp),r2]);have t3:w2.cell? ⟨w.heap.size+1,3,none⟩=some (.slice none 0 0):=(by rw [hc _ _ (by omega)];rw [World.cell?_setCell_other _ _ _ _ (by simp),r3]);have u0:w2.cell? ⟨w.heap.size+1+1,0,none⟩=some (.int .i64 nx):=(by rw [hc _ _ (by omega)];rw [setO (by omega),s0]);have u1:w2.cell? ⟨w.heap.size+1+1,1,none⟩=some (.int .i64 ck):=(by rw [hc _ _ (by omega)];rw [setO (by omega),s1]);have u2:w2.cell? ⟨w.heap.size+1+1,2,none⟩=some (.slice (some ⟨w.heap.size+1+1+1,0,none⟩) n n):=(by rw [hc _ _ (by omega)];exact setS s2);have u3:w2.cell? ⟨w.heap.size+1+1,3,none⟩=some (.slice none 0 0):=(by rw [hc _ _ (by omega)];rw [setO (by omega),s3])
  have k1:∀i,w2.frozen? ⟨w.heap.size+1,i,none⟩=false:=fun i=>by rw [hf _ _ (by omega),World.frozen?_setCell];exact f1 i
  have k2:∀i,w2.frozen? ⟨w.heap.size+1+1,i,none⟩=false:=fun i=>by rw [hf _ _ (by omega),World.frozen?_setCell];exact f2 i
  have HB2:Hid (Below w.heap.size w w2):=below_then HB'.out hb2
  have HP:Hid (OwnTx w2 (w.heap.size+3) w1.heap.size (some ⟨w.heap.size+3,0,none⟩) n TT):=by
    have h:=HO.out.writes (lo':=w.heap.size) (hi':=w.heap.size+3) (Writes.setCell (Writes.refl _ _ _) (p:=⟨w.heap.size+1+1,2,none⟩) (by simp <;> omega) (by simp <;> omega) (.slice (some ⟨w.heap.size+1+1+1,0,none⟩) n n)) (.inr (Nat.le_refl _));exact h.below hb2
  rw [es] at ho2;have HQ:Hid (OwnRw w2 w1.heap.size w2.heap.size (some ⟨w1.heap.size,0,none⟩) m RR):=ho2;rw [es];have hs2:w1.heap.size≤w2.heap.size:=(by have:=hb2.size;rw [es] at this;exact this);clear hc hf hb2 ho2 es q1 r0 r1 r2 r3 s0 s1 s2 s3 f1 f2 HB';go_wp2_with fail;refine bodyPost_ret (v:=.agg #[.int .i64 nx,.int .i64 ck,.slice (some ⟨w.heap.size+3,0,none⟩) n n,.slice (some ⟨w1.heap.size,0,none⟩) m m]) (by simp [results,Tryz.results11,go_sem, *]) rfl ⟨_,_,rfl,?_,?_⟩
  · repeat (first | with_reducible exact HB2.out | with_reducible refine Below.setCell ?_ (by first | omega | (simp <;> omega)) _)
  · have hw:∀w3,Writes w.heap.size (w.heap.size+3) w2 w3→w3.heap.size=w2.heap.size→OwnE w3 w.heap.size w3.heap.size (some ⟨w.heap.size+3,0,none⟩) (some ⟨w1.heap.size,0,none⟩) ⟨nx,ck,n,TT,m,RR⟩:=fun w3 h e=>
      ⟨Nat.le_refl _,w.heap.size+3,w1.heap.size,w1.heap.size,w2.heap.size,by omega,by omega,by omega,by omega,.inl (Nat.le_refl _),HP.out.writes h (.inr (Nat.le_refl _)),HQ.out.writes h (.inr (by omega))⟩
    refine hw _ ?_ (by simp [World.setCell])
    repeat (first | with_reducible exact Writes.refl _ _ _ | with_reducible refine Writes.setCell ?_ (by first | omega | (simp <;> omega)) (by first | omega | (simp <;> omega)) _)
set_option maxHeartbeats 2000000 in
theorem eqEngine_same (E:En) (a a' d d':Option Addr) (cap cap' dap dap':Nat) (w:World) (hs:SmallE E) (h:EngAt w a a' E) (h':EngAt w d d' E) :
    Calls Tryz.prog 14 #[.agg #[.int .i64 E.nx,.int .i64 E.ck,.slice a E.p cap,.slice a' E.q cap'],.agg #[.int .i64 E.nx,.int .i64 E.ck,.slice d E.p dap,.slice d' E.q dap']] w fun e w'=>e=.returned (.bool true)∧Below w.heap.size w w':=by
  have HS:Hid (SmallE E):=hs;have H1:Hid (EngAt w a a' E):=h;have H3:Hid (EngAt w d d' E):=h';clear h h' hs;have hb0:∀o1 o2,Below w.heap.size w ((w.alloc o1).alloc o2):=fun o1 o2=>(((Below.refl _ _).alloc (Nat.le_refl _) _).alloc (by simp) _);go_enter Tryz.func14,Tryz.ntmps14;go_wp2_with fail;refine (eqTxnS_any E.p E.T a d cap dap _ HS.out.p HS.out.t (H1.out.1.below (hb0 _ _)) (H3.out.1.below (hb0 _ _))).mono ?_;rintro e w1 ⟨rfl,hb1⟩;obtain ⟨hc,hf⟩:=bcell2 hb1;have q0:w1.cell? ⟨w.heap.size,3,none⟩=some (.slice a' E.q cap'):=(by rw [hc _ _ (by simp <;> omega)];simp [go_sem]);have q1:w1.cell? ⟨w.heap.size+1,3,none⟩=some (.slice d' E.q dap'):=(by rw [hc _ _ (by simp <;> omega)];simp [go_sem]);have HB:Hid (Below w.heap.size w w1):=below_then (hb0 _ _) hb1;clear hc hf hb1 hb0;go_wp2_with fail;refine (eqRowS_any E.q E.R a' d' cap' dap' _ HS.out.q HS.out.r (H1.out.2.below HB.out) (H3.out.2.below HB.out)).mono ?_;rintro e w2 ⟨rfl,hb2⟩;go_wp2_with fail;go_ret;exact ⟨rfl,below_then HB.out hb2⟩
def mE (m:Int) (E:En):En:=⟨E.nx,E.ck,E.p,mTx m E.T,E.q,mRw (m+sTx E.T E.p) E.R⟩
def totE (E:En):Nat:=sTx E.T E.p+sRw E.R E.q
theorem sTx_le {E:En} (h:SmallE E):sTx E.T E.p≤8388608:=by
  have:=sTx_eq E.T E.p;have h1:=h.st;have h3:=h.p;omega
set_option maxHeartbeats 1000000 in
theorem markEngine_any (E:En) (a a':Option Addr) (cap cap' lo hi:Nat) (m:Int) (w:World) (hs:SmallE E) (hm1:0≤m) (hm2:m≤1048576) (h:OwnE w lo hi a a' E) :
    Calls Tryz.prog 15 #[.agg #[.int .i64 E.nx,.int .i64 E.ck,.slice a E.p cap,.slice a' E.q cap'],.int .i64 m] w fun e w'=>e=.returned (.int .i64 (m+totE E))∧Writes lo hi w w'∧OwnE w' lo hi a a' (mE m E):=by
  have HS:Hid (SmallE E):=hs;have hst:=sTx_le hs;have HT:Hid ((totE E:Int)=sTx E.T E.p+sRw E.R E.q):=(by simp [totE,Hid]);obtain ⟨h0,l1,h1,l2,h2,e1,e2,e3,e4,e5,hp,hl⟩:=h;have HP:Hid (OwnTx w l1 h1 a E.p E.T):=hp;have HL:Hid (OwnRw w l2 h2 a' E.q E.R):=hl;clear hs hp hl;go_enter Tryz.func15,Tryz.ntmps15;go_wp2_with fail;refine (markTxnS_any E.p E.T a cap l1 h1 m _ HS.out.p HS.out.st hm1 (by omega) (HP.out.below (below_new _ _))).mono ?_;rintro e w1 ⟨rfl,hw1,ho1⟩;have HW:Hid (Writes l1 h1 w w1):=(Writes.of_below (below_new _ _)).trans hw1;have hlt:h1≤w.heap.size:=HP.out.1
  have q1:w1.cell? ⟨w.heap.size,3,none⟩=some (.slice a' E.q cap'):=by
    rw [hw1.cell (by simp) (by omega) _];simp [go_sem]
  have HO1:Hid (OwnTx w1 l1 h1 a E.p (mTx m E.T)):=ho1;have hz1:w.heap.size≤w1.heap.size:=HW.out.size;clear hw1 ho1;go_wp2_with fail;refine (markRowS_any E.q E.R a' cap' l2 h2 (m+sTx E.T E.p) _ HS.out.q HS.out.sr (by omega) (by omega) (HL.out.writes HW.out (by omega))).mono ?_;rintro e w2 ⟨rfl,hw2,ho2⟩;have hz2:w1.heap.size≤w2.heap.size:=hw2.size;go_wp2_with fail;go_ret;refine ⟨ret_int (by rw [HT.out];omega),(HW.out.wide2 e1 e2).trans (hw2.wide2 e3 e4),?_⟩;exact OwnE.mk' (by omega) e1 e2 e3 e4 e5 (HO1.out.writes hw2 (by omega)) ho2
set_option maxHeartbeats 1000000 in
theorem heldEngine_any (E:En) (a a':Option Addr) (cap cap':Nat) (m:Int) (x y:Int) (w:World) (hs:SmallE E) (hm1:0≤m) (hm2:m≤1048576) (h:EngAt w a a' (mE m E)) :
    Calls Tryz.prog 71 #[.agg #[.int .i64 x,.int .i64 y,.slice a E.p cap,.slice a' E.q cap'],.int .i64 m] w fun e w'=>e=.returned (.int .i64 (m+totE E))∧Below w.heap.size w w':=by
  have HS:Hid (SmallE E):=hs;have hst:=sTx_le hs;have HT:Hid ((totE E:Int)=sTx E.T E.p+sRw E.R E.q):=(by simp [totE,Hid]);obtain ⟨hp,hl⟩:=h;have HP:Hid (TxsAt w a E.p (mTx m E.T)):=hp;have HL:Hid (RwsAt w a' E.q (mRw (m+sTx E.T E.p) E.R)):=hl;clear hs hp hl;have hneg:¬(m+(sTx E.T E.p:Int)<0):=(by omega);have hneg2:¬(m+(sTx E.T E.p:Int)+(sRw E.R E.q:Int)<0):=(by omega);go_enter Tryz.func71,Tryz.ntmps71;go_wp2_with fail;refine (heldTxnS_any E.p E.T a cap m _ HS.out.p HS.out.st hm1 (by omega) (HP.out.below (below_new _ _))).mono ?_;rintro e w1 ⟨rfl,rfl⟩;go_wp2_with fail;refine (heldRowS_any E.q E.R a' cap' (m+sTx E.T E.p) _ HS.out.q HS.out.sr (by omega) (by omega) (HL.out.below (below_new _ _))).mono ?_;rintro e w2 ⟨rfl,rfl⟩;go_wp2_with fail;go_ret;exact ⟨ret_int (by rw [HT.out];omega),below_new _ _⟩
theorem cellsEng:Tryz.prog.cellsOf 25=4:=by kernel_rfl
theorem openEngine {H:Type} {enc:TypeId × Value→H} {W:World} {r:Reach} {b0:Nat} {v:Value} {d:DataW H} {p:List MemPlace}
    (hv:Value.okWide Tryz.prog W r b0 25 v) (h:DataW.Trod enc Tryz.prog W 0 (fun _=>true) true 25 v d p) :
    ∃(E:En) (a a':Option Addr) (cap cap':Nat),v=.agg #[.int .i64 E.nx,.int .i64 E.ck,.slice a E.p cap,.slice a' E.q cap']∧E.p≤9223372036854775807∧(∀i,i<E.p→(E.T i).n≤9223372036854775807)∧E.q≤9223372036854775807∧(∀i,i<E.q→(E.R i).n≤9223372036854775807)∧EngAt W a a' E:=by
  obtain ⟨c0,c1,c2,c3,y0,y1,y2,y3,m,rfl,rfl,rfl,h0,h1,h2,h3⟩:=open_agg4 Tryz.underlying25 (by kernel_rfl) cellsEng hv h;obtain ⟨x0,e0,_,_⟩:=DataW.trod_int Tryz.underlying2 h0;obtain ⟨x1,e1,_,_⟩:=DataW.trod_int Tryz.underlying2 h1;obtain ⟨a,n,cap,TT,e2,k1,k2,k4⟩:=openTxs h2;obtain ⟨a',n',cap',RR,e3,j1,j2,j4⟩:=openRws h3;simp at e0 e1 e2 e3;subst e0 e1 e2 e3;exact ⟨⟨x0,x1,n,TT,n',RR⟩,a,a',cap,cap',rfl,k1,k2,j1,j2,k4,j4⟩
theorem eqReply_same (c v:Int) (n:Nat) (K V:Nat→Int) (a a':Option Addr) (cap cap':Nat) (w:World) (hn:n≤1048576) (h:CellsAt w a n K V) (h':CellsAt w a' n K V) :
    Calls Tryz.prog 82 #[.agg #[.int .i64 c,.int .i64 v,.slice a n cap],.agg #[.int .i64 c,.int .i64 v,.slice a' n cap']] w fun e w'=>e=.returned (.bool true)∧Below w.heap.size w w':=by
  have hb0:∀o1 o2,Below w.heap.size w ((w.alloc o1).alloc o2):=fun o1 o2=>((Below.refl _ _).alloc (Nat.le_refl _) _).alloc (by simp) _;have HC:Hid (CellsAt w a n K V):=h;have HC':Hid (CellsAt w a' n K V):=h';clear h h';go_enter Tryz.func82,Tryz.ntmps82;go_wp2_with fail;refine (eqCellS_any n K V a a' cap cap' _ (by omega) (HC.out.below (hb0 _ _)) (HC'.out.below (hb0 _ _))).mono ?_;rintro e w1 ⟨rfl,hb1⟩;go_wp2_with fail;go_ret;exact ⟨rfl,below_then (hb0 _ _) hb1⟩
theorem markReply_any (c v:Int) (n:Nat) (K V:Nat→Int) (a:Option Addr) (cap lo hi:Nat) (w:World) (hn:n≤1048576) (h:Own w lo hi a n K V) :
    Calls Tryz.prog 83 #[.agg #[.int .i64 c,.int .i64 v,.slice a n cap],.int .i64 1] w fun e w'=>e=.returned (.int .i64 (1+n*2))∧Writes lo hi w w'∧Own w' lo hi a n (mK 1) (mK 2):=by
  have HO:Hid (Own w lo hi a n K V):=h;clear h;go_enter Tryz.func83,Tryz.ntmps83;go_wp2_with fail;refine (markCellS_any n K V a cap lo hi 1 _ (by omega) (by omega) (by omega) (HO.out.below (below_new _ _))).mono ?_;rintro e w1 ⟨rfl,hw,ho⟩;go_wp2_with fail;go_ret;exact ⟨rfl,(Writes.of_below (below_new _ _)).trans hw,ho⟩
theorem heldReply_any (c v:Int) (n:Nat) (a:Option Addr) (cap:Nat) (w:World) (hn:n≤1048576) (h:CellsAt w a n (mK 1) (mK 2)) :
    Calls Tryz.prog 84 #[.agg #[.int .i64 c,.int .i64 v,.slice a n cap],.int .i64 1] w fun e w'=>e=.returned (.int .i64 (1+n*2))∧Below w.heap.size w w':=by
  have HO:Hid (CellsAt w a n (mK 1) (mK 2)):=h;have hneg:¬((1:Int)+(n:Int)*2<0):=(by omega);clear h;go_enter Tryz.func84,Tryz.ntmps84;go_wp2_with fail;refine (heldCellS_any n a cap 1 _ (by omega) (by omega) (by omega) (HO.out.below (below_new _ _))).mono ?_;rintro e w1 ⟨rfl,rfl⟩;go_wp2_with fail;go_ret;exact ⟨rfl,below_new _ _⟩
def RAt (w:World) (a:Option Addr) (n:Nat) (K V:Nat→Int) (d d':Option Addr) (E:En):Prop:=CellsAt w a n K V∧EngAt w d d' E
def OwnRR (w:World) (lo hi:Nat) (a:Option Addr) (n:Nat) (K V:Nat→Int) (d d':Option Addr) (E:En):Prop:=
  hi≤w.heap.size∧∃l1 h1 l2 h2,(h1≤l2∨h2≤l1)∧lo≤l1∧h1≤hi∧lo≤l2∧h2≤hi∧Own w l1 h1 a n K V∧OwnE w l2 h2 d d' E
theorem OwnRR.at {w:World} {lo hi n:Nat} {a d d':Option Addr} {K V:Nat→Int} {E:En} (h:OwnRR w lo hi a n K V d d' E):RAt w a n K V d d' E:=by
  obtain ⟨_,l1,h1,l2,h2,_,_,_,_,_,k1,k2⟩:=h;exact ⟨k1.at,k2.at⟩
theorem OwnRR.writes {w w':World} {lo hi lo' hi' n:Nat} {a d d':Option Addr} {K V:Nat→Int} {E:En} (h:OwnRR w lo hi a n K V d d' E) (hw:Writes lo' hi' w w') (hd:hi≤lo'∨hi'≤lo):OwnRR w' lo hi a n K V d d' E:=by
  obtain ⟨h0,l1,h1,l2,h2,k0,k1,k2,k3,k4,k5,k6⟩:=h;exact ⟨Nat.le_trans h0 hw.size,l1,h1,l2,h2,k0,k1,k2,k3,k4,k5.writes hw (by omega),k6.writes hw (by omega)⟩
theorem OwnRR.below {w w':World} {lo hi n:Nat} {a d d':Option Addr} {K V:Nat→Int} {E:En} (h:OwnRR w lo hi a n K V d d' E) (hb:Below w.heap.size w w'):OwnRR w' lo hi a n K V d d' E:=
  h.writes (Writes.of_below (lo:=hi) (hi:=hi) hb) (.inl (Nat.le_refl _))
def Box8r (w:World) (B:Nat) (c0 c1 c2 c3 c4 c5 c6 c7:Value):Prop:=Box4 w B c0 c1 c2 c3∧w.cell? ⟨B,4,none⟩=some c4∧w.cell? ⟨B,5,none⟩=some c5∧w.cell? ⟨B,6,none⟩=some c6∧w.cell? ⟨B,7,none⟩=some c7
theorem Box8r.alloc {w:World} {B:Nat} {c0 c1 c2 c3 c4 c5 c6 c7:Value} (h:Box8r w B c0 c1 c2 c3 c4 c5 c6 c7) (x:Obj):Box8r (w.alloc x) B c0 c1 c2 c3 c4 c5 c6 c7:=⟨h.1.alloc x,cell_alloc h.2.1 x,cell_alloc h.2.2.1 x,cell_alloc h.2.2.2.1 x,cell_alloc h.2.2.2.2 x⟩
theorem Box8r.below {w w':World} {B:Nat} {c0 c1 c2 c3 c4 c5 c6 c7:Value} (h:Box8r w B c0 c1 c2 c3 c4 c5 c6 c7) (x:Below w.heap.size w w'):Box8r w' B c0 c1 c2 c3 c4 c5 c6 c7:=⟨h.1.below x,cell_below h.2.1 x,cell_below h.2.2.1 x,cell_below h.2.2.2.1 x,cell_below h.2.2.2.2 x⟩
theorem Box8r.writes {w w':World} {lo hi:Nat} {B:Nat} {c0 c1 c2 c3 c4 c5 c6 c7:Value} (h:Box8r w B c0 c1 c2 c3 c4 c5 c6 c7) (x:Writes lo hi w w') (d:B<lo∨hi≤B):Box8r w' B c0 c1 c2 c3 c4 c5 c6 c7:=⟨h.1.writes x d,cell_writes h.2.1 x d,cell_writes h.2.2.1 x d,cell_writes h.2.2.2.1 x d,cell_writes h.2.2.2.2 x d⟩
theorem Box8r.new (w:World) (c0 c1 c2 c3 c4 c5 c6 c7:Value) (t:TypeId):Box8r (w.alloc (.cells #[c0,c1,c2,c3,c4,c5,c6,c7] t)) w.heap.size c0 c1 c2 c3 c4 c5 c6 c7:=by simp [Box8r,Box4]
set_option maxHeartbeats 2000000 in
theorem eqReplyResult_same (c rc rv:Int) (n:Nat) (K V:Nat→Int) (E:En) (a a':Option Addr) (ca ca':Nat) (d d':Option Addr) (cd cd':Nat) (f f':Option Addr) (cf cf':Nat) (w:World) (hn:n≤1048576) (hs:SmallE E) (h:RAt w a n K V d d' E) (h':RAt w a' n K V f f' E) :
    Calls Tryz.prog 23 #[.agg #[.int .i64 c,.int .i64 rc,.int .i64 rv,.slice a n ca,.int .i64 E.nx,.int .i64 E.ck,.slice d E.p cd,.slice d' E.q cd'],.agg #[.int .i64 c,.int .i64 rc,.int .i64 rv,.slice a' n ca',.int .i64 E.nx,.int .i64 E.ck,.slice f E.p cf,.slice f' E.q cf']] w fun e w'=>e=.returned (.bool true)∧Below w.heap.size w w':=by
  have hb0:∀o1 o2,Below w.heap.size w ((w.alloc o1).alloc o2):=fun o1 o2=>((Below.refl _ _).alloc (Nat.le_refl _) _).alloc (by simp) _;have HA:Hid (RAt w a n K V d d' E):=h;have HB:Hid (RAt w a' n K V f f' E):=h';have HS:Hid (SmallE E):=hs;have c0:=(Box8r.new w (.int .i64 c) (.int .i64 rc) (.int .i64 rv) (.slice a n ca) (.int .i64 E.nx) (.int .i64 E.ck) (.slice d E.p cd) (.slice d' E.q cd') 48).alloc (.cells #[.int .i64 c,.int .i64 rc,.int .i64 rv,.slice a' n ca',.int .i64 E.nx,.int .i64 E.ck,.slice f E.p cf,.slice f' E.q cf'] 48);have c1:=Box8r.new (w.alloc (.cells #[.int .i64 c,.int .i64 rc,.int .i64 rv,.slice a n ca,.int .i64 E.nx,.int .i64 E.ck,.slice d E.p cd,.slice d' E.q cd'] 48)) (.int .i64 c) (.int .i64 rc) (.int .i64 rv) (.slice a' n ca') (.int .i64 E.nx) (.int .i64 E.ck) (.slice f E.p cf) (.slice f' E.q cf') 48;clear h h' hs;go_enter Tryz.func23,Tryz.ntmps23;go_wp2_with fail;refine (eqReply_same rc rv n K V a a' ca ca' _ hn (HA.out.1.below (hb0 _ _)) (HB.out.1.below (hb0 _ _))).mono ?_;rintro e w1 ⟨rfl,hb1⟩;have HC:Hid (Below w.heap.size w w1):=below_then (hb0 _ _) hb1;obtain ⟨-,q0,q1,q2,q3⟩:=c0.below hb1;obtain ⟨-,p0,p1,p2,p3⟩:=c1.below hb1;clear c0 c1 hb1
  try rw [World.size_alloc] at p0 p1 p2 p3
  go_wp2_with fail;refine (eqEngine_same E d d' f f' cd cd' cf cf' _ HS.out (HA.out.2.below HC.out) (HB.out.2.below HC.out)).mono ?_;rintro e w2 ⟨rfl,hb2⟩;go_wp2_with fail;go_ret;exact ⟨rfl,below_then HC.out hb2⟩
set_option maxHeartbeats 2000000 in
theorem markReplyResult_any (c rc rv:Int) (n:Nat) (K V:Nat→Int) (E:En) (a:Option Addr) (ca:Nat) (d d':Option Addr) (cd cd' lo hi:Nat) (w:World) (hn:n≤500000) (hs:SmallE E) (h:OwnRR w lo hi a n K V d d' E) :
    Calls Tryz.prog 24 #[.agg #[.int .i64 c,.int .i64 rc,.int .i64 rv,.slice a n ca,.int .i64 E.nx,.int .i64 E.ck,.slice d E.p cd,.slice d' E.q cd'],.int .i64 1] w fun e w'=>e=.returned (.int .i64 (1+n*2+totE E))∧Writes lo hi w w'∧OwnRR w' lo hi a n (mK 1) (mK 2) d d' (mE (1+n*2) E):=by
  obtain ⟨h0,l1,h1,l2,h2,k0,k1,k2,k3,k4,k5,k6⟩:=h;have K5:Hid (Own w l1 h1 a n K V):=k5;have K6:Hid (OwnE w l2 h2 d d' E):=k6;have HS:Hid (SmallE E):=hs;have c0:=Box8r.new w (.int .i64 c) (.int .i64 rc) (.int .i64 rv) (.slice a n ca) (.int .i64 E.nx) (.int .i64 E.ck) (.slice d E.p cd) (.slice d' E.q cd') 48;clear k5 k6 hs;go_enter Tryz.func24,Tryz.ntmps24;go_wp2_with fail;refine (markReply_any rc rv n K V a ca l1 h1 _ (by omega) (K5.out.below (below_new _ _))).mono ?_;rintro e w1 ⟨rfl,hw,ho⟩;have HW:Hid (Writes lo hi w w1):=(Writes.of_below (below_new _ _)).trans (hw.wide2 k1 k2);have HO:Hid (Own w1 l1 h1 a n (mK 1) (mK 2)):=ho;have HI:Hid (OwnE w1 l2 h2 d d' E):=(K6.out.below (below_new _ _)).writes hw (by omega);obtain ⟨-,q0,q1,q2,q3⟩:=c0.writes hw (by omega);clear c0 hw ho;go_wp2_with fail;refine (markEngine_any E d d' cd cd' l2 h2 (1+n*2) _ HS.out (by omega) (by omega) HI.out).mono ?_;rintro e w2 ⟨rfl,hw,ho⟩;have HF:Hid (Writes lo hi w w2∧OwnRR w2 lo hi a n (mK 1) (mK 2) d d' (mE (1+n*2) E)):=⟨HW.out.trans (hw.wide2 k3 k4),Nat.le_trans h0 (HW.out.trans (hw.wide2 k3 k4)).size,l1,h1,l2,h2,k0,k1,k2,k3,k4,HO.out.writes hw (by omega),ho⟩;clear hw ho;go_wp2_with fail;go_ret;exact ⟨rfl,HF.out⟩
set_option maxHeartbeats 2000000 in
theorem heldReplyResult_any (c rc rv x y:Int) (n:Nat) (E:En) (a:Option Addr) (ca:Nat) (d d':Option Addr) (cd cd':Nat) (w:World) (hn:n≤500000) (hs:SmallE E) (h:RAt w a n (mK 1) (mK 2) d d' (mE (1+n*2) E)) :
    Calls Tryz.prog 25 #[.agg #[.int .i64 c,.int .i64 rc,.int .i64 rv,.slice a n ca,.int .i64 x,.int .i64 y,.slice d E.p cd,.slice d' E.q cd'],.int .i64 1] w fun e w'=>e=.returned (.int .i64 (1+n*2+totE E))∧Below w.heap.size w w':=by
  have HO:Hid (RAt w a n (mK 1) (mK 2) d d' (mE (1+n*2) E)):=h;have HS:Hid (SmallE E):=hs;have hneg1:¬((1:Int)+(n:Int)*2<0):=(by omega);have hneg2:¬((1:Int)+(n:Int)*2+totE E<0):=(by unfold totE;omega);have c0:=Box8r.new w (.int .i64 c) (.int .i64 rc) (.int .i64 rv) (.slice a n ca) (.int .i64 x) (.int .i64 y) (.slice d E.p cd) (.slice d' E.q cd') 48;clear h hs;go_enter Tryz.func25,Tryz.ntmps25;go_wp2_with fail;refine (heldReply_any rc rv n a ca _ (by omega) (HO.out.1.below (below_new _ _))).mono ?_;rintro e w1 ⟨rfl,hb1⟩;have HC:Hid (Below w.heap.size w w1):=below_then (below_new _ _) hb1;obtain ⟨-,q0,q1,q2,q3⟩:=c0.below hb1;clear c0 hb1;go_wp2_with fail;refine (heldEngine_any E d d' cd cd' (1+n*2) x y _ HS.out (by omega) (by omega) (HO.out.2.below HC.out)).mono ?_;rintro e w2 ⟨rfl,hb2⟩;go_wp2_with fail;go_ret;exact ⟨rfl,below_then HC.out hb2⟩
end Go.Proofs.YtjdodbiphijjgaaGreat
