import Derived.Test.YtjdodbiphijjgaaGreatJGa
import Derived.Test.YtjdodbiphijjgaaGreatJDoa
import Derived.Test.YtjdodbiphijjgaaGreatJBox
import Derived.Deep.DeepCutAuto
import Derived.Deep.RegionHeld3
import Derived.Test.YtjdodbiphijjgaaGreatJVg
namespace Go.Proofs.YtjdodbiphijjgaaGreat
open Go.RowKit Go.Deep
set_option linter.unusedVariables false
set_option maxRecDepth 20000
theorem tF_3i {nx ck:Int} {T:Nat→Tx} {i:Nat} (h:tIn nx ck (T i)=false):tF nx ck T i=3:=if_pos h
theorem tF_1i {nx ck:Int} {T:Nat→Tx} {i:Nat} (h:tIn nx ck (T i)=true) (h2:(tB1 T i || (tB2 (T i) || tB3 (T i)))=true):tF nx ck T i=1:=by
  unfold tF;rw [if_neg (by simp [h]),if_pos (by rw [Bool.or_assoc];exact h2)]
theorem tF_ui {nx ck:Int} {T:Nat→Tx} {i:Nat} (h:tIn nx ck (T i)=true) (h2:(tB1 T i || (tB2 (T i) || tB3 (T i)))=false):tF nx ck T i=usF (T i).n (T i).U:=by
  unfold tF;rw [if_neg (by simp [h]),if_neg (by rw [Bool.or_assoc];simp [h2])]
theorem tB1_first {T:Nat→Tx} {k:Nat}:(∃j,k=j+1∧tB1 T k=decide ((T k).id≤(T j).id))∨(decide (0<k)=false∧tB1 T k=false):=by
  rcases Nat.eq_zero_or_pos k with e | e
  · exact .inr ⟨by simp;omega,by rw [tB1,show decide (0<k)=false by simp;omega];rfl⟩
  · refine .inl ⟨k-1,by omega,?_⟩;rw [tB1,show decide (0<k)=true by simp;omega];rfl
set_option maxHeartbeats 8000000 in
theorem txnFault_any (E:En) (a:Option Addr) (cap:Nat) (a':Option Addr) (cap':Nat) (k:Nat) (w:World) (hp:E.p≤20) (hlt:k<E.p) (hsm:∀i,i<E.p→(E.T i).n≤1048576) (hN:1≤E.nx∧E.nx≤999) (h:EngAt w a a' E) :
    Calls Tryz.prog 142 #[.agg #[.int .i64 E.nx,.int .i64 E.ck,.slice a E.p cap,.slice a' E.q cap'],.int .i64 k] w fun e w'=>e=.returned (.int .i64 (tF E.nx E.ck E.T k))∧Below w.heap.size w w':=by
  obtain ⟨nx,ck,p,T,q,R⟩:=E;dsimp only at *;obtain ⟨hTA,-⟩:=h;dsimp only at hTA;have HSK:Hid ((T k).n≤1048576):=hsm k hlt;have HN:Hid (1≤nx∧nx≤999):=hN;have hlt':(k:Int)<(p:Int):=(by omega);have hk0:(0:Int)≤(k:Int):=(by omega)
  rcases hTA with h | ⟨bb,off,rfl,hl,hcc⟩
  · omega
  obtain ⟨ai,ci,hCT,hun,-⟩:=hcc k hlt;have HUN:Hid (UndsAt w ai (T k).n (T k).U):=hun
  have HCC:Hid (∀i,i<p→w.cell? ⟨bb,off+i*5,none⟩=some (.int .i64 (T i).id)):=fun i hi=>by obtain ⟨_,_,⟨h,_⟩,_⟩:=hcc i hi;exact h
  obtain ⟨x0,x1,x2,x3,x4⟩:=hCT;have hbne:¬bb=w.heap.size:=(by omega);have y0:=fun o:Obj=>cell_alloc x0 o;have y1:=fun o:Obj=>cell_alloc x1 o;have y2:=fun o:Obj=>cell_alloc x2 o;have y3:=fun o:Obj=>cell_alloc x3 o;have y4:=fun o:Obj=>cell_alloc x4 o;clear hcc hun hsm hN x0 x1 x2 x3 x4;generalize hC:tF nx ck T k=C;go_enter Tryz.func142,Tryz.ntmps142;go_wp2_with fail;have hb0:∀o1 o2,Below w.heap.size w ((w.alloc o1).alloc o2):=fun o1 o2=>(((Below.refl _ _).alloc (Nat.le_refl _) _).alloc (by simp) _);refine (txnInBounds_any nx ck (some ⟨bb,off,none⟩) a' ai p q cap cap' ci (T k) _ HN.out).mono ?_;rintro e w1 ⟨rfl,hb1⟩;obtain ⟨hcz,-⟩:=bcell2 hb1;have e2:w1.cell? ⟨w.heap.size,2,none⟩=some (.slice (some ⟨bb,off,none⟩) p cap):=(by rw [hcz _ _ (by simp <;> omega)];simp [go_sem]);have t0:w1.cell? ⟨w.heap.size+1,0,none⟩=some (.int .i64 (T k).id):=(by rw [hcz _ _ (by simp <;> omega)];simp [go_sem]);have t1:w1.cell? ⟨w.heap.size+1,1,none⟩=some (.int .i64 (T k).am):=(by rw [hcz _ _ (by simp <;> omega)];simp [go_sem]);have t2:w1.cell? ⟨w.heap.size+1,2,none⟩=some (.int .i64 (T k).st):=(by rw [hcz _ _ (by simp <;> omega)];simp [go_sem]);have t3:w1.cell? ⟨w.heap.size+1,3,none⟩=some (.int .i64 (T k).dn):=(by rw [hcz _ _ (by simp <;> omega)];simp [go_sem]);have t4:w1.cell? ⟨w.heap.size+1,4,none⟩=some (.slice ai (T k).n ci):=(by rw [hcz _ _ (by simp <;> omega)];simp [go_sem]);have HB1:Hid (Below w.heap.size w w1):=below_then (hb0 _ _) hb1;have HUN1:Hid (UndsAt w1 ai (T k).n (T k).U):=HUN.out.below HB1.out;have HCC1:Hid (∀i,i<p→w1.cell? ⟨bb,off+i*5,none⟩=some (.int .i64 (T i).id)):=fun i hi=>cell_below (HCC.out i hi) HB1.out;clear hcz hb1 hb0 y0 y1 y2 y3 y4 HUN HCC HN
  obtain ht | ht:=bool_or2 (tIn nx ck (T k))
  case inr=>
    have HE:Hid (C=3):=hC.symm.trans (tF_3i ht);rw [ht];clear hC;go_wp2_with fail;go_ret;exact ⟨ret_int HE.out.symm,HB1.out⟩
  rw [ht];have HT:Hid (tIn nx ck (T k)=true):=ht;have HC:Hid (tF nx ck T k=C):=hC;clear ht hC;generalize hEB:w.heap.size=EB at *;generalize hTB:EB+1=TB at *;go_upto_region 4 with fail;go_cut [36] (fun cc wx=>cc=.bool (tB1 T k || (tB2 (T k) || tB3 (T k)))∧Hid (Below w1.heap.size w1 wx))
  case first=>
    clear HC HT HSK HUN1
    rcases tB1_first (T:=T) (k:=k) with ⟨j,rfl,e1⟩ | ⟨hd,e1⟩
    · have y3:=HCC1.out j (by omega);have hj1:(j:Int)<(p:Int):=(by omega);have hj2:j<p:=(by omega);have hj8:(j:Int)+1<(p:Int):=(by omega);have hj7:(0:Int)≤(j:Int)+1:=(by omega);have hwj:IntKind.i64.wrap (j:Int)=(j:Int):=(by rw [IntKind.wrap_i64];omega);have hj9:(0:Int)<(j:Int)+1:=(by omega)
      obtain hx1 | hx1:=bool_or2 (decide ((T (j+1)).id≤(T j).id))
      · have HV:Hid ((tB1 T (j+1) || (tB2 (T (j+1)) || tB3 (T (j+1))))=true):=by show _=_;rw [e1,hx1];rfl
        clear e1;go_quiet (fail);go_wp2_with fail;go_meet;refine ⟨by rw [HV.out],below_drewN (Below.refl _ _) _⟩
      · have HV:Hid ((tB1 T (j+1) || (tB2 (T (j+1)) || tB3 (T (j+1))))=(tB2 (T (j+1)) || tB3 (T (j+1)))):=by show _=_;rw [e1,hx1];rfl
        clear e1;have hb0:Below w1.heap.size w1 w1.drew:=(Below.refl _ _).drew
        go_region_held3 (fun w'=>Below w1.heap.size w1 w'∧w'.cell? ⟨TB,0,none⟩=some (.int .i64 (T (j+1)).id)∧w'.cell? ⟨TB,1,none⟩=some (.int .i64 (T (j+1)).am)∧w'.cell? ⟨TB,2,none⟩=some (.int .i64 (T (j+1)).st)∧w'.cell? ⟨TB,3,none⟩=some (.int .i64 (T (j+1)).dn)∧w'.cell? ⟨TB,4,none⟩=some (.slice ai (T (j+1)).n ci)∧w'.cell? ⟨EB,2,none⟩=some (.slice (some ⟨bb,off,none⟩) p cap)∧w'.cell? ⟨bb,off+j*5,none⟩=some (.int .i64 (T j).id)) (go_keep)
          (first | (go_at_call 193;refine (txnHasForm_any ai ci (T (j+1)) _).mono ?_;rintro e wq ⟨rfl,hbq⟩;have hU:=below_then (w:=w1) (by simp [*]) hbq;have hU0:=cell_below (B:=TB) (o:=0) (v:=.int .i64 (T (j+1)).id) (by simp [*]) hbq;have hU1:=cell_below (B:=TB) (o:=1) (v:=.int .i64 (T (j+1)).am) (by simp [*]) hbq;have hU2:=cell_below (B:=TB) (o:=2) (v:=.int .i64 (T (j+1)).st) (by simp [*]) hbq;have hU3:=cell_below (B:=TB) (o:=3) (v:=.int .i64 (T (j+1)).dn) (by simp [*]) hbq;have hU4:=cell_below (B:=TB) (o:=4) (v:=.slice ai (T (j+1)).n ci) (by simp [*]) hbq;have hU5:=cell_below (B:=EB) (o:=2) (v:=.slice (some ⟨bb,off,none⟩) p cap) (by simp [*]) hbq;have hU6:=cell_below (B:=bb) (o:=off+j*5) (v:=.int .i64 (T j).id) (by simp [*]) hbq))
        go_wp2_with fail;go_meet;refine ⟨?_,by assumption⟩;rw [HV.out]
        try simp
    · have HV:Hid ((tB1 T k || (tB2 (T k) || tB3 (T k)))=(tB2 (T k) || tB3 (T k))):=by show _=_;rw [e1];rfl
      clear e1;refine wp_region_any (by kernel_rfl) ?_;change wpAny _ _ _ _ _ _ _ (World.drew _);refine wpAny_take (i:=0) (v:=.int .i64 (k:Int)) rfl (by kernel_rfl) (by kernel_rfl) (by kernel_rfl) (fun _ _ _ h=>h) (Or.inl ⟨by kernel_rfl,by intro w;go_simp⟩) ?_;refine wpAny_take (i:=1) (v:=.bool false) rfl (by kernel_rfl) (by kernel_rfl) (by kernel_rfl) (fun _ _ _ h=>h) (Or.inl ⟨by kernel_rfl,by intro w;go_simp⟩) ?_;refine wpAny_take (i:=2) (v:=.bool false) rfl (by kernel_rfl) (by kernel_rfl) (by kernel_rfl) (fun _ _ _ h=>h) (Or.inl ⟨by kernel_rfl,by intro w;go_simp⟩) ?_;refine any_skip 3 (some 21) (by kernel_rfl) (by kernel_rfl) (by kernel_rfl) (by kernel_rfl) (by kernel_rfl) (fun _ _ _ h=>h) ?_;refine any_skip 4 (some 22) (by kernel_rfl) (by kernel_rfl) (by kernel_rfl) (by kernel_rfl) (by kernel_rfl) (fun _ _ _ h=>h) ?_;refine any_skip 5 (some 23) (by kernel_rfl) (by kernel_rfl) (by kernel_rfl) (by kernel_rfl) (by kernel_rfl) (fun _ _ _ h=>h) ?_;refine any_skip 6 (some 24) (by kernel_rfl) (by kernel_rfl) (by kernel_rfl) (by kernel_rfl) (by kernel_rfl) (fun _ _ _ h=>h) ?_;refine any_skip 7 (some 25) (by kernel_rfl) (by kernel_rfl) (by kernel_rfl) (by kernel_rfl) (by kernel_rfl) (fun _ _ _ h=>h) ?_;refine any_skip 8 (some 26) (by kernel_rfl) (by kernel_rfl) (by kernel_rfl) (by kernel_rfl) (by kernel_rfl) (fun _ _ _ h=>h) ?_;refine any_skip 9 (some 27) (by kernel_rfl) (by kernel_rfl) (by kernel_rfl) (by kernel_rfl) (by kernel_rfl) (fun _ _ _ h=>h) ?_;refine any_skip 10 (some 28) (by kernel_rfl) (by kernel_rfl) (by kernel_rfl) (by kernel_rfl) (by kernel_rfl) (fun _ _ _ h=>h) ?_;refine any_skip 11 (some 29) (by kernel_rfl) (by kernel_rfl) (by kernel_rfl) (by kernel_rfl) (by kernel_rfl) (fun _ _ _ h=>h) ?_;refine any_skip 12 (some 30) (by kernel_rfl) (by kernel_rfl) (by kernel_rfl) (by kernel_rfl) (by kernel_rfl) (fun _ _ _ h=>h) ?_;refine wpAny_take (i:=13) (v:=.bool false) rfl (by kernel_rfl) (by kernel_rfl) (by kernel_rfl) (fun _ _ _ h=>h) (Or.inl ⟨by kernel_rfl,by intro w;go_simp⟩) ?_;refine wpAny_take (i:=14) (v:=.bool false) rfl (by kernel_rfl) (by kernel_rfl) (by kernel_rfl) (fun _ _ _ h=>h) (Or.inl ⟨by kernel_rfl,by intro w;go_simp⟩) ?_;refine wpAny_ready (rs:=[15]) (by kernel_rfl) (by simp) ?_;refine AllReady.cons rfl (fun K hK=>?_) AllReady.nil;go_simp;refine hK _ _ ?_;clear hK K;refine wpAny_ready (rs:=[16]) (by kernel_rfl) (by simp) ?_;refine AllReady.cons rfl (fun K hK=>?_) AllReady.nil;go_simp;go_at_call 193;refine (txnHasForm_any ai ci (T k) _).mono ?_;rintro e w2 ⟨rfl,hb2⟩;have HBW:Hid (Below w1.heap.size w1 w2):=drewB6 hb2;go_simp;refine hK _ _ ?_;clear hK K;refine wpAny_take (i:=17) (v:=.bool (tB2 (T k) || tB3 (T k))) rfl (by kernel_rfl) (by kernel_rfl) (by kernel_rfl) (fun _ _ _ h=>h) (Or.inl ⟨by kernel_rfl,by intro w;go_simp⟩) ?_;refine wpAny_take (i:=18) (v:=.bool (tB2 (T k) || tB3 (T k))) rfl (by kernel_rfl) (by kernel_rfl) (by kernel_rfl) (fun _ _ _ h=>h) (Or.inl ⟨by kernel_rfl,by intro w;go_simp⟩) ?_;refine wpAny_done (by kernel_rfl) ?_ _;go_simp;go_wp2_with fail;go_meet;refine ⟨by rw [HV.out],HBW⟩
  case rest=>
    obtain ⟨rfl,HBX⟩:=hcut;have HBX1:Below EB w w1:=HB1.out;have hsz1:EB≤w1.heap.size:=(by have:=HBX1.size;omega);have HB2:Hid (Below w.heap.size w wc):=(by show Below w.heap.size w wc;rw [hEB];exact HBX1.trans (HBX.out.mono hsz1));clear HBX1 hEB hTB;have hsz2:EB≤wc.heap.size:=Nat.le_trans hsz1 HBX.out.size;have HUN2:Hid (UndsAt wc ai (T k).n (T k).U):=HUN1.out.below HBX.out;replace t4:=cell_below t4 HBX.out;clear t0 t1 t2 t3 e2 HCC1 HUN1 HBX HB1 hl
    obtain hb | hb:=bool_or2 (tB1 T k || (tB2 (T k) || tB3 (T k)))
    · have HE:Hid (C=1):=HC.out.symm.trans (tF_1i HT.out hb);rw [hb];clear HC HT hb;go_wp2_with fail;go_ret;exact ⟨ret_int HE.out.symm,HB2.out⟩
    have HE0:Hid (C=usF (T k).n (T k).U):=HC.out.symm.trans (tF_ui HT.out hb);rw [hb];clear HC HT hb
    by_cases h60:60<(T k).n
    · have HE:Hid (C=2):=HE0.out.trans (if_pos h60);have h6:(60:Int)<((T k).n:Int):=(by omega);clear HE0;go_wp2_with fail;go_ret;exact ⟨ret_int HE.out.symm,HB2.out⟩
    have HE1:Hid (C=ffz (fun j=>uF ((T k).U j)) (T k).n 0):=HE0.out.trans (if_neg h60);have h6:¬((60:Int)<((T k).n:Int)):=(by omega);clear HE0;generalize hTT:T k=t at *;go_wp2_with fail;clear t4;go_loopw [7,8,44] (fun _ _ i wr=>∃d:Nat,d≤t.n∧i=.int .i64 d∧Hid (C=ffz (fun j=>uF (t.U j)) (t.n-d) d)∧Hid (Below wc.heap.size wc wr)) (fun _ _ i _=>t.n-(intOf i).toNat)
    case atStart=>exact ⟨0,Nat.zero_le _,rfl,HE1,Below.refl _ _⟩
    case round=>
      obtain ⟨d,hd,rfl,HC,HB⟩:=hrel
      by_cases hdl:d<t.n
      · have hdl':(d:Int)<(t.n:Int):=by omega
        have hd0:(0:Int)≤(d:Int):=(by omega)
        rcases HUN2.out.below HB.out with h | ⟨ub,uo,rfl,hul,huc⟩
        · omega
        obtain ⟨u0,u1,u2,u3⟩:=huc d hdl;have HF0:Hid (C=_):=HC.out.trans (ffz_at _ hdl);clear huc HC HE1;go_wp2_with fail;refine (undoFault_any (t.U d) _).mono ?_;rintro e w5 ⟨rfl,hb5⟩;have HB5:Hid (Below wc.heap.size wc w5):=below_then HB.out (below_then (below_new _ _) hb5);clear hb5 u0 u1 u2 u3
        by_cases hu:uF (t.U d)=0
        · have HE:Hid (C=ffz (fun j=>uF (t.U j)) (t.n-(d+1)) (d+1)):=by
            have h:=HF0.out;rw [if_pos hu] at h;exact h
          rw [hu];clear HF0 hu;go_wp2_with fail;go_roundw
          case rel=>exact ⟨d+1,hdl,by go_num,HE,HB5⟩
          case measure=>simp [intOf];omega
        · have HE:Hid (C=uF (t.U d)):=by
            have h:=HF0.out;rw [if_neg hu] at h;exact h
          have hu2:(uF (t.U d) != 0)=true:=(by simp [hu]);clear HF0 hu;generalize uF (t.U d)=uu at *;go_wp2_with fail;go_ret;exact ⟨ret_int HE.out.symm,below_then HB2.out HB5.out⟩
      · have HE:Hid (C=0):=by
          have h:=HC.out;rw [show t.n-d=0 by omega] at h;exact h
        have hnl:¬((d:Int)<(t.n:Int)):=(by omega);have HBF:Hid (Below w.heap.size w wr):=below_then HB2.out HB.out;clear HC HE1;go_wp2_with fail;go_ret;exact ⟨ret_int HE.out.symm,HBF.out⟩
def vQ (T:Nat→Tx) (r:Rw) (i:Nat):Bool:=(T i).id == (r.U 0).t && hasU (T i).U r.key (T i).n
def vI (p:Nat) (T:Nat→Tx) (r:Rw):Bool:=decide (0≤fi (vQ T r) p 0)
def vfB (ck:Int) (p:Nat) (T:Nat→Tx) (r:Rw):Bool:=allb (fun i=>!decide (ck<(r.U i).a)) r.n && (!fop r.n r.U || vI p T r)
theorem older_at {n:Nat} {R:Nat→Vr} (h:chF n R=0) {j:Nat} (hj:j+1<n):(R (j+1)).a≠0∧((R j).a=0∨(R (j+1)).a<(R j).a):=by
  have hv:=((chF_good h).2 (j+1) hj).2;unfold vF at hv;simp only [Bool.or_eq_false_iff] at hv
  have ho:older (R (j+1)) (R j)=true:=by
    have:=hv.2
    simpa using this
  unfold older at ho
  simpa using ho
theorem at_falls {n:Nat} {R:Nat→Vr} (h:chF n R=0) {b:Int} (h0:(R 0).a≤b) (h1:1<n→(R 1).a≤b):∀i,i<n→(R i).a≤b
  | 0,_=>h0
  | 1,hi=>h1 hi
  | i+2,hi=>by
    have ih:=at_falls h h0 h1 (i+1) (by omega);obtain ⟨_,h3⟩:=older_at h (j:=i+1) hi;obtain ⟨h4,_⟩:=older_at h (j:=i) (by omega)
    rcases h3 with h3 | h3
    · exact absurd h3 h4
    · have h5:(R (i+2)).a<(R (i+1)).a:=h3;omega
theorem tF_good {nx ck:Int} {T:Nat→Tx} {i:Nat} (h:tF nx ck T i=0):tIn nx ck (T i)=true∧tB1 T i=false∧tB2 (T i)=false∧tB3 (T i)=false∧usF (T i).n (T i).U=0:=by
  unfold tF at h;split at h
  · omega
  · rename_i h1;split at h
    · omega
    · rename_i h2;have h1':tIn nx ck (T i)=true:=(by simpa using h1);have h2':(tB1 T i || tB2 (T i) || tB3 (T i))=false:=(by simpa using h2);simp only [Bool.or_eq_false_iff] at h2';exact ⟨h1',h2'.1.1,h2'.1.2,h2'.2,h⟩
theorem usF_le {n:Nat} {U:Nat→Ud} (h:usF n U=0):n≤60:=by
  unfold usF at h;split at h
  · omega
  · omega
theorem ids_rise {nx ck:Int} {T:Nat→Tx} {p:Nat} (h:∀i,i<p→tF nx ck T i=0):∀j,j<p→∀i,i<j→(T i).id<(T j).id
  | 0,_,i,hi=>by omega
  | j+1,hj,i,hi=>by
    have h1:=(tF_good (h (j+1) hj)).2.1
    have h2:(T j).id<(T (j+1)).id:=by
      unfold tB1 at h1;simp at h1;omega
    by_cases e:i=j
    · subst e;exact h2
    · have:=ids_rise h j (by omega) i (by omega);omega
theorem id_pos {nx ck:Int} {T:Nat→Tx} {i:Nat} (h:tF nx ck T i=0):1≤(T i).id:=by
  have:=(tF_good h).1;unfold tIn at this;simp only [Bool.and_eq_true] at this;exact (inB_iff.1 this.1.1.1).1
theorem vfB_eq {nx ck:Int} {p:Nat} {T:Nat→Tx} {r:Rw} (ht:∀i,i<p→tF nx ck T i=0) (hc:chF r.n r.U=0) (hn:0<r.n):vfB ck p T r=!(rB2 ck r || !opB p T r):=by
  have e1:allb (fun i=>!decide (ck<(r.U i).a)) r.n=!rB2 ck r:=by
    by_cases h:rB2 ck r=true
    · rw [h];unfold rB2 at h;simp only [Bool.or_eq_true,Bool.and_eq_true,decide_eq_true_eq] at h
      rcases h with h | ⟨h1,h2⟩
      · exact allb_not hn (by simp;exact h)
      · exact allb_not h1 (by simp;exact h2)
    · have h':rB2 ck r=false:=by simpa using h
      rw [h'];unfold rB2 at h';simp only [Bool.or_eq_false_iff,Bool.and_eq_false_iff,decide_eq_false_iff_not] at h';refine (allb_iff _ _).2 fun i hi=>?_;have:=at_falls hc (b:=ck) (by omega) (fun h1=>by rcases h'.2 with h2 | h2 <;> omega) i hi;simp;omega
  have e2:(!fop r.n r.U || vI p T r)=opB p T r:=by
    cases hf:fop r.n r.U with
    | false=>
      have hw:wrt r.n r.U=0:=by
        unfold wrt;unfold fop at hf;rw [if_neg];rintro ⟨h1,h2⟩;simp [h1,h2] at hf
      simp [opB,hw]
    | true=>
      have ⟨h1,h2⟩:0<r.n∧(r.U 0).a=0:=(by simpa [fop] using hf);have hw:wrt r.n r.U=(r.U 0).t:=if_pos ⟨h1,h2⟩;have hr:=((chF_good hc).2 0 hn).1
      have ht0:1≤(r.U 0).t:=by
        unfold vR at hr;simp only [Bool.and_eq_true] at hr;exact (inB_iff.1 hr.1.1).1
      have hne:(wrt r.n r.U == 0)=false:=(by rw [hw];simp;omega);simp only [Bool.not_true,Bool.false_or];unfold vI opB;rw [hne,Bool.false_or,hw]
      rcases fi_cases (vQ T r) p with ⟨k1,k2⟩ | ⟨j,k1,k2,k3,k4⟩
      · rw [k1]
        rcases fi_cases (fun i=>(T i).id == (r.U 0).t) p with ⟨m1,m2⟩ | ⟨j,m1,m2,m3,m4⟩
        · have:fT p T (r.U 0).t=-1:=m1;rw [this];simp
        · have hm:fT p T (r.U 0).t=(j:Int):=m2;rw [hm,Int.toNat_natCast];have hq:=k2 j m1;unfold vQ at hq;rw [m3,Bool.true_and] at hq;rw [hq];simp
      · rw [k2];unfold vQ at k3;simp only [Bool.and_eq_true,beq_iff_eq] at k3
        have hm:fT p T (r.U 0).t=(j:Int):=by
          rcases fi_cases (fun i=>(T i).id == (r.U 0).t) p with ⟨m1,m2⟩ | ⟨i,m1,m2,m3,m4⟩
          · have:=m2 j k1;simp [k3.1] at this
          · have hi:i=j:=by
              have e3:(T i).id=(r.U 0).t:=(by simpa using m3)
              rcases Nat.lt_trichotomy i j with h | h | h
              · have:=ids_rise ht j k1 i h;omega
              · exact h
              · have:=ids_rise ht i m1 j h;omega
            rw [←hi];exact m2
        rw [hm,Int.toNat_natCast,k3.2]
        have hst:(T j).st=1:=by
          have h3:=(tF_good (ht j k1)).2.2.2.1;obtain ⟨q,hq,_⟩:=(hasU_iff _ _ _).1 k3.2;unfold tB3 at h3;have hp:0<(T j).n:=(by omega);simp [hp] at h3;exact h3
        rw [hst];simp
  unfold vfB;rw [e1,e2];simp
set_option maxHeartbeats 4000000 in
theorem vf1_any (t:Tx) (ti:Option Addr) (tc:Nat) (r:Rw) (B:Nat) (vb vo ci:Nat) (w:World) (hn:0<r.n) (ht:t.n≤1048576) (c0:w.cell? ⟨B,0,none⟩=some (.int .i64 r.key)) (c1:w.cell? ⟨B,1,none⟩=some (.slice (some ⟨vb,vo,none⟩) r.n ci)) (c2:w.cell? ⟨vb,vo,none⟩=some (.int .i64 (r.U 0).t)) (hu:UndsAt w ti t.n t.U) :
    Calls Tryz.prog 226 #[.agg #[.int .i64 t.id,.int .i64 t.am,.int .i64 t.st,.int .i64 t.dn,.slice ti t.n tc],.pointer (some ⟨B,0,none⟩)] w fun e w'=>e=.returned (.bool (t.id == (r.U 0).t && hasU t.U r.key t.n))∧Below w.heap.size w w':=by
  have HU:Hid (UndsAt w ti t.n t.U):=hu;have hn1:(0:Int)<(r.n:Int):=(by omega);have d0:=fun o:Obj=>cell_alloc c0 o;have d1:=fun o:Obj=>cell_alloc c1 o;have d2:=fun o:Obj=>cell_alloc c2 o;clear hu
  obtain he | he:=bool_or2 (t.id == (r.U 0).t)
  case inr=>
    have HE:Hid ((t.id == (r.U 0).t && hasU t.U r.key t.n)=false):=(by show _=_;rw [he];rfl);go_enter Tryz.func226,Tryz.ntmps226;go_wp2_with fail;go_quiet (fail);go_wp2_with fail;go_ret;exact ⟨ret_bool HE.out.symm,below_drewN (below_new _ _) _⟩
  have HE:Hid ((t.id == (r.U 0).t && hasU t.U r.key t.n)=hasU t.U r.key t.n):=(by show _=_;rw [he];rfl)
  have HBX:Hid (∀o:Obj,o=.cells #[.int .i64 t.id,.int .i64 t.am,.int .i64 t.st,.int .i64 t.dn,.slice ti t.n tc] 127→(w.alloc o).cell? ⟨w.heap.size,0,none⟩=some (.int .i64 t.id)∧(w.alloc o).cell? ⟨w.heap.size,4,none⟩=some (.slice ti t.n tc)):=by
    rintro o rfl;exact ⟨by simp [go_sem],by simp [go_sem]⟩
  go_enter Tryz.func226,Tryz.ntmps226;go_wp2_with fail;obtain ⟨t0,t4⟩:=HBX.out _ rfl;have z0:=d0 (.cells #[.int .i64 t.id,.int .i64 t.am,.int .i64 t.st,.int .i64 t.dn,.slice ti t.n tc] 127);have z1:=d1 (.cells #[.int .i64 t.id,.int .i64 t.am,.int .i64 t.st,.int .i64 t.dn,.slice ti t.n tc] 127);have z2:=d2 (.cells #[.int .i64 t.id,.int .i64 t.am,.int .i64 t.st,.int .i64 t.dn,.slice ti t.n tc] 127);have HUA:Hid (UndsAt (w.alloc (.cells #[.int .i64 t.id,.int .i64 t.am,.int .i64 t.st,.int .i64 t.dn,.slice ti t.n tc] 127)) ti t.n t.U):=HU.out.below (below_new _ _);have HBA:Hid (Below w.heap.size w (w.alloc (.cells #[.int .i64 t.id,.int .i64 t.am,.int .i64 t.st,.int .i64 t.dn,.slice ti t.n tc] 127))):=below_new _ _;clear d0 d1 d2 c0 c1 c2 HBX HU;generalize w.alloc (.cells #[.int .i64 t.id,.int .i64 t.am,.int .i64 t.st,.int .i64 t.dn,.slice ti t.n tc] 127)=W at *;generalize hTB:w.heap.size=TB at *;have hb0:Below W.heap.size W W.drew:=(Below.refl _ _).drew
  go_region_held3 (fun w'=>Below W.heap.size W w'∧w'.cell? ⟨TB,0,none⟩=some (.int .i64 t.id)∧w'.cell? ⟨TB,4,none⟩=some (.slice ti t.n tc)∧w'.cell? ⟨B,0,none⟩=some (.int .i64 r.key)∧w'.cell? ⟨B,1,none⟩=some (.slice (some ⟨vb,vo,none⟩) r.n ci)∧w'.cell? ⟨vb,vo,none⟩=some (.int .i64 (r.U 0).t)) (go_keep)
    (first | (go_at_call 197;refine (hasUndo_any t.n t.U ti tc r.key _ ht (HUA.out.below (by simp [*]))).mono ?_;rintro e wq ⟨rfl,hbq⟩;have hU:=below_then (w:=W) (by simp [*]) hbq;have hU0:=cell_below (B:=TB) (o:=0) (v:=.int .i64 t.id) (by simp [*]) hbq;have hU1:=cell_below (B:=TB) (o:=4) (v:=.slice ti t.n tc) (by simp [*]) hbq;have hU2:=cell_below (B:=B) (o:=0) (v:=.int .i64 r.key) (by simp [*]) hbq;have hU3:=cell_below (B:=B) (o:=1) (v:=.slice (some ⟨vb,vo,none⟩) r.n ci) (by simp [*]) hbq;have hU4:=cell_below (B:=vb) (o:=vo) (v:=.int .i64 (r.U 0).t) (by simp [*]) hbq))
  go_wp2_with fail;go_ret;refine ⟨ret_bool HE.out.symm,?_⟩;have hsz:TB≤W.heap.size:=(by have:=HBA.out.size;omega)
  first | exact HBA.out.trans (Below.mono (by assumption) hsz) | (rw [hTB];exact HBA.out.trans (Below.mono (by assumption) hsz))
set_option maxHeartbeats 2000000 in
theorem idxTxn_any (n:Nat) (T:Nat→Tx) (a:Option Addr) (cap:Nat) (r:Rw) (B vb vo ci:Nat) (w:World) (hp:n≤1048576) (hn:0<r.n) (hsm:∀i,i<n→(T i).n≤1048576) (c0:w.cell? ⟨B,0,none⟩=some (.int .i64 r.key)) (c1:w.cell? ⟨B,1,none⟩=some (.slice (some ⟨vb,vo,none⟩) r.n ci)) (c2:w.cell? ⟨vb,vo,none⟩=some (.int .i64 (r.U 0).t)) (h:TxsAt w a n T) :
    Calls Tryz.prog 165 #[.slice a n cap,.func (.func 226) #[] #[.pointer (some ⟨B,0,none⟩)]] w fun e w'=>e=.returned (.int .i64 (fi (vQ T r) n 0))∧Below w.heap.size w w':=by
  have HA:Hid (TxsAt w a n T):=h;have HS:Hid (∀i,i<n→(T i).n≤1048576):=hsm;have HC0:Hid (w.cell? ⟨B,0,none⟩=some (.int .i64 r.key)∧w.cell? ⟨B,1,none⟩=some (.slice (some ⟨vb,vo,none⟩) r.n ci)∧w.cell? ⟨vb,vo,none⟩=some (.int .i64 (r.U 0).t)):=⟨c0,c1,c2⟩;generalize hC:fi (vQ T r) n 0=C;clear h c0 c1 c2 hsm;go_enter Tryz.func165,Tryz.ntmps165;go_wp2_with fail;go_loopw [5,8] (fun _ i wr=>∃k:Nat,k≤n∧i=.int .i64 k∧Hid (C=fi (vQ T r) (n-k) k)∧Hid (Below w.heap.size w wr)) (fun _ i _=>n-(intOf i).toNat)
  case atStart=>exact ⟨0,Nat.zero_le _,rfl,hC.symm,Below.refl _ _⟩
  case round=>
    obtain ⟨k,hk,rfl,HC,HB⟩:=hrel
    by_cases hlt:k<n
    · have hlt':(k:Int)<(n:Int):=by omega
      have hk0:(0:Int)≤(k:Int):=(by omega)
      rcases HA.out.below HB.out with h | ⟨bb,off,rfl,hl,hcc⟩
      · omega
      obtain ⟨ti,tc,⟨x0,x1,x2,x3,x4⟩,hun,-⟩:=hcc k hlt;have HUN:Hid (UndsAt wr ti (T k).n (T k).U):=hun;have HE0:=HC.out.trans (fi_at _ hlt);have HQ:Hid (vQ T r k=((T k).id == (r.U 0).t && hasU (T k).U r.key (T k).n)):=rfl;have HSK:Hid ((T k).n≤1048576):=HS.out k hlt;clear hcc HC hC hun;go_wp2_with fail;refine (vf1_any (T k) ti tc r B vb vo ci wr hn HSK.out (cell_below HC0.out.1 HB.out) (cell_below HC0.out.2.1 HB.out) (cell_below HC0.out.2.2 HB.out) HUN.out).mono ?_;rintro e w1 ⟨rfl,hb1⟩;have HB1:Hid (Below w.heap.size w w1):=below_then HB.out hb1;rw [←HQ.out];clear hb1 x0 x1 x2 x3 x4 HUN HQ
      obtain hq | hq:=bool_or2 (vQ T r k)
      · have HE:Hid (C=k):=by rw [if_pos hq] at HE0;exact HE0
        clear HE0;rw [hq];go_wp2_with fail;go_ret;exact ⟨ret_int HE.out.symm,HB1.out⟩
      · have HE:Hid (C=fi (vQ T r) (n-(k+1)) (k+1)):=by rw [if_neg (by simpa using hq)] at HE0;exact HE0
        clear HE0;rw [hq];go_wp2_with fail;go_roundw
        case rel=>exact ⟨k+1,hlt,by go_num,HE,HB1⟩
        case measure=>simp [intOf];omega
    · have HE:Hid (C=-1):=by
        have h:=HC.out;rw [show n-k=0 by omega] at h;exact h
      clear HC hC;have hnl:¬((k:Int)<(n:Int)):=(by omega);go_wp2_with fail;go_ret;exact ⟨ret_int HE.out.symm,HB.out⟩
theorem hasTxn_any (n:Nat) (T:Nat→Tx) (a:Option Addr) (cap:Nat) (r:Rw) (B vb vo ci:Nat) (w:World) (hp:n≤1048576) (hn:0<r.n) (hsm:∀i,i<n→(T i).n≤1048576) (c0:w.cell? ⟨B,0,none⟩=some (.int .i64 r.key)) (c1:w.cell? ⟨B,1,none⟩=some (.slice (some ⟨vb,vo,none⟩) r.n ci)) (c2:w.cell? ⟨vb,vo,none⟩=some (.int .i64 (r.U 0).t)) (h:TxsAt w a n T) :
    Calls Tryz.prog 225 #[.slice a n cap,.func (.func 226) #[] #[.pointer (some ⟨B,0,none⟩)]] w fun e w'=>e=.returned (.bool (vI n T r))∧Below w.heap.size w w':=by
  have HA:Hid (TxsAt w a n T):=h;have HQ:Hid (vI n T r=decide (0≤fi (vQ T r) n 0)):=rfl;have HS:Hid (∀i,i<n→(T i).n≤1048576):=hsm;clear h hsm;go_enter Tryz.func225,Tryz.ntmps225;go_wp2_with fail;refine (idxTxn_any n T a cap r B vb vo ci w hp hn HS.out c0 c1 c2 HA.out).mono ?_;rintro e w1 ⟨rfl,hb1⟩;have HB1:Hid (Below w.heap.size w w1):=hb1;clear hb1 c0 c1 c2;generalize fi (vQ T r) n 0=C at *;go_wp2_with fail;go_ret;exact ⟨ret_bool HQ.out.symm,HB1.out⟩
set_option maxHeartbeats 4000000 in
theorem versionsFit_any (E:En) (a:Option Addr) (cap:Nat) (a':Option Addr) (cap':Nat) (r:Rw) (ai:Option Addr) (ci:Nat) (w:World) (hp:E.p≤20) (hsm:∀i,i<E.p→(E.T i).n≤1048576) (hn:0<r.n) (hn2:r.n≤12) (h:EngAt w a a' E) (hv:VersAt w ai r.n r.U) :
    Calls Tryz.prog 196 #[.agg #[.int .i64 E.nx,.int .i64 E.ck,.slice a E.p cap,.slice a' E.q cap'],.agg #[.int .i64 r.key,.slice ai r.n ci]] w fun e w'=>e=.returned (.bool (vfB E.ck E.p E.T r))∧Below w.heap.size w w':=by
  obtain ⟨nx,ck,p,T,q,R⟩:=E;dsimp only at *;have HTA:Hid (TxsAt w a p T):=h.1;have HS:Hid (∀i,i<p→(T i).n≤1048576):=hsm;have HV:Hid (VersAt w ai r.n r.U):=hv;have HF:Hid (vfB ck p T r=(allb (fun i=>!decide (ck<(r.U i).a)) r.n && (!fop r.n r.U || vI p T r))):=rfl;have hmf:∀(fn:Fn) (first cap:Array Value) (w:World),(Instr.makeFunc fn first cap).run Tryz.prog w=.ok (.func fn first cap) w:=fun _ _ _ _=>rfl;clear h hsm hv;have HW:Hid (∀o1 o2:Obj,Below w.heap.size w ((w.alloc o1).alloc o2)):=fun o1 o2=>(((Below.refl _ _).alloc (Nat.le_refl _) _).alloc (by simp) _)
  have HBX:Hid (∀o1 o2:Obj,o1=.cells #[.int .i64 nx,.int .i64 ck,.slice a p cap,.slice a' q cap'] 30→o2=.cells #[.int .i64 r.key,.slice ai r.n ci] 173→
      Box4 ((w.alloc o1).alloc o2) w.heap.size (.int .i64 nx) (.int .i64 ck) (.slice a p cap) (.slice a' q cap')∧Box2 ((w.alloc o1).alloc o2) (w.heap.size+1) (.int .i64 r.key) (.slice ai r.n ci)):=by
    rintro o1 o2 rfl rfl;exact ⟨(Box4.new w _ _ _ _ _).alloc _,by simp [Box2,go_sem]⟩
  go_enter Tryz.func196,Tryz.ntmps196;go_wp2_with fail;obtain ⟨HB4,HB2⟩:=HBX.out _ _ rfl rfl;have HWW:=HW.out (.cells #[.int .i64 nx,.int .i64 ck,.slice a p cap,.slice a' q cap'] 30) (.cells #[.int .i64 r.key,.slice ai r.n ci] 173);have HB4H:Hid (Box4 ((w.alloc (.cells #[.int .i64 nx,.int .i64 ck,.slice a p cap,.slice a' q cap'] 30)).alloc (.cells #[.int .i64 r.key,.slice ai r.n ci] 173)) w.heap.size (.int .i64 nx) (.int .i64 ck) (.slice a p cap) (.slice a' q cap')):=HB4;have HB2H:Hid (Box2 ((w.alloc (.cells #[.int .i64 nx,.int .i64 ck,.slice a p cap,.slice a' q cap'] 30)).alloc (.cells #[.int .i64 r.key,.slice ai r.n ci] 173)) (w.heap.size+1) (.int .i64 r.key) (.slice ai r.n ci)):=HB2;have HVW:Hid (VersAt ((w.alloc (.cells #[.int .i64 nx,.int .i64 ck,.slice a p cap,.slice a' q cap'] 30)).alloc (.cells #[.int .i64 r.key,.slice ai r.n ci] 173)) ai r.n r.U):=HV.out.below HWW;have HTW:Hid (TxsAt ((w.alloc (.cells #[.int .i64 nx,.int .i64 ck,.slice a p cap,.slice a' q cap'] 30)).alloc (.cells #[.int .i64 r.key,.slice ai r.n ci] 173)) a p T):=HTA.out.below HWW;have HWH:Hid (Below w.heap.size w ((w.alloc (.cells #[.int .i64 nx,.int .i64 ck,.slice a p cap,.slice a' q cap'] 30)).alloc (.cells #[.int .i64 r.key,.slice ai r.n ci] 173))):=HWW;clear HBX HW HB4 HB2 HWW HV HTA;generalize (w.alloc (.cells #[.int .i64 nx,.int .i64 ck,.slice a p cap,.slice a' q cap'] 30)).alloc (.cells #[.int .i64 r.key,.slice ai r.n ci] 173)=W at *;have hsz:Hid (w.heap.size≤W.heap.size):=HWH.out.size;generalize hEB:w.heap.size=EB at *;generalize hRB:EB+1=RB at *;go_loopw [6,10] (fun _ i wr=>∃k:Nat,k≤r.n∧i=.int .i64 k∧Hid (allb (fun i=>!decide (ck<(r.U i).a)) k=true)∧Hid (Below W.heap.size W wr)) (fun _ i _=>r.n-(intOf i).toNat)
  case atStart=>exact ⟨0,Nat.zero_le _,rfl,rfl,Below.refl _ _⟩
  case round=>
    obtain ⟨k,hk,rfl,HC,HB⟩:=hrel;have HBE:Hid (Below EB w wr):=HWH.out.trans (HB.out.mono hsz.out);obtain ⟨b0,b1,b2,b3⟩:=HB4H.out.below HB.out;obtain ⟨g0,g1⟩:=HB2H.out.below HB.out
    by_cases hlt:k<r.n
    · have hlt':(k:Int)<(r.n:Int):=by omega
      have hk0:(0:Int)≤(k:Int):=(by omega)
      rcases HVW.out.below HB.out with h | ⟨vb,vo,rfl,hvl,hvc⟩
      · omega
      obtain ⟨v0,v1,v2,v3⟩:=hvc k hlt;have d1:=fun o:Obj=>cell_alloc b1 o;have HBN:Hid (∀o:Obj,Below W.heap.size W (wr.alloc o)):=fun o=>below_then HB.out (below_new _ _);have HBN2:Hid (∀o:Obj,Below EB w (wr.alloc o)):=fun o=>HWH.out.trans ((HBN.out o).mono hsz.out);clear hvc
      obtain hx | hx:=bool_or2 (decide (ck<(r.U k).a))
      · have HE:Hid (vfB ck p T r=false):=by
          show _=_;rw [HF.out,allb_not hlt (by rw [hx];rfl)];rfl
        clear HF HC;go_wp2_with fail;go_ret
        first | exact ⟨ret_bool HE.out.symm,HBN2.out _⟩ | exact ⟨ret_bool HE.out.symm,by rw [hEB];exact HBN2.out _⟩
      · have HE:Hid (allb (fun i=>!decide (ck<(r.U i).a)) (k+1)=true):=by
          show _=_;simp only [allb];rw [HC.out,hx];rfl
        clear HF HC;go_wp2_with fail;go_roundw
        case rel=>exact ⟨k+1,hlt,by go_num,HE,HBN.out _⟩
        case measure=>simp [intOf];omega
    · have hkn:k=r.n:=by omega
      have HE1:Hid (vfB ck p T r=(!fop r.n r.U || vI p T r)):=by
        show _=_;rw [hkn] at HC;rw [HF.out,HC.out];rfl
      have hnl:¬((k:Int)<(r.n:Int)):=(by omega);have HVR:Hid (VersAt wr ai r.n r.U):=HVW.out.below HB.out;have HTR:Hid (TxsAt wr a p T):=HTW.out.below HB.out;clear HF HC b0 b1 b3;go_wp2_with fail;refine (firstIsOpen_any r.n r.U ai ci wr HVR.out).mono ?_;rintro e w1 ⟨rfl,hb1⟩;have HBE1:Hid (Below EB w w1):=HBE.out.trans (hb1.mono (Nat.le_trans hsz.out HB.out.size));replace b2:=cell_below b2 hb1;replace g0:=cell_below g0 hb1;replace g1:=cell_below g1 hb1;have HVR1:=HVR.out.below hb1;have HTR1:Hid (TxsAt w1 a p T):=HTR.out.below hb1;have hsz1:Hid (EB≤w1.heap.size):=Nat.le_trans hsz.out (Nat.le_trans HB.out.size hb1.size);clear hb1 HVR HTR
      obtain hf | hf:=bool_or2 (fop r.n r.U)
      · rw [hf] at HE1 ⊢
        rcases HVR1 with h | ⟨vb,vo,rfl,hvl,hvc⟩
        · omega
        obtain ⟨v0,-⟩:=hvc 0 hn;rw [Nat.zero_mul,Nat.add_zero] at v0;clear hvc hf;go_wp2_with fail;refine (hasTxn_any p T a cap r RB vb vo ci w1 (by omega) hn HS.out g0 g1 v0 HTR1.out).mono ?_;rintro e w2 ⟨rfl,hb2⟩;have HBE2:Hid (Below EB w w2):=HBE1.out.trans (hb2.mono hsz1.out);clear hb2;go_wp2_with fail;go_ret
        first | exact ⟨ret_bool (by rw [HE1.out];rfl),HBE2.out⟩ | exact ⟨ret_bool (by rw [HE1.out];rfl),by rw [hEB];exact HBE2.out⟩
      · rw [hf] at HE1 ⊢;clear HVR1 hf;go_wp2_with fail;go_ret
        first | exact ⟨ret_bool (by rw [HE1.out];rfl),HBE1.out⟩ | exact ⟨ret_bool (by rw [HE1.out];rfl),by rw [hEB];exact HBE1.out⟩
theorem rF_3i {ck:Int} {p:Nat} {T:Nat→Tx} {R:Nat→Rw} {i:Nat} (h:inB (R i).key 0 31=false):rF ck p T R i=3:=if_pos h
theorem rF_1i {ck:Int} {p:Nat} {T:Nat→Tx} {R:Nat→Rw} {i:Nat} (h:inB (R i).key 0 31=true) (h1:rB1 R i=true):rF ck p T R i=1:=by
  unfold rF;rw [if_neg (by simp [h]),if_pos h1]
theorem rF_ci {ck:Int} {p:Nat} {T:Nat→Tx} {R:Nat→Rw} {i:Nat} (h:inB (R i).key 0 31=true) (h1:rB1 R i=false) (hc:chF (R i).n (R i).U≠0):rF ck p T R i=chF (R i).n (R i).U:=by
  unfold rF;rw [if_neg (by simp [h]),if_neg (by simp [h1]),if_neg hc]
theorem rF_bi {ck:Int} {p:Nat} {T:Nat→Tx} {R:Nat→Rw} {i:Nat} (h:inB (R i).key 0 31=true) (h1:rB1 R i=false) (hc:chF (R i).n (R i).U=0):rF ck p T R i=if (rB2 ck (R i) || !opB p T (R i))=true then 1 else 0:=by
  unfold rF;rw [if_neg (by simp [h]),if_neg (by simp [h1]),if_pos hc]
theorem rB1_ni {R:Nat→Rw} {i:Nat} (h:rB1 R i=false):0<(R i).n:=by
  unfold rB1 at h
  have:((R i).n == 0)=false:=by
    cases e:((R i).n == 0) with
    | false=>rfl
    | true=>rw [e,Bool.or_true] at h;cases h
  have:(R i).n≠0:=(by simpa using this);omega
set_option maxHeartbeats 8000000 in
theorem rowFault_any (E:En) (a:Option Addr) (cap:Nat) (a':Option Addr) (cap':Nat) (k:Nat) (w:World) (hp:E.p≤20) (hq:E.q≤32) (hlt:k<E.q) (hsm:∀i,i<E.p→(E.T i).n≤1048576) (hsr:∀i,i<E.q→(E.R i).n≤1048576) (ht:∀i,i<E.p→tF E.nx E.ck E.T i=0) (h:EngAt w a a' E) :
    Calls Tryz.prog 143 #[.agg #[.int .i64 E.nx,.int .i64 E.ck,.slice a E.p cap,.slice a' E.q cap'],.int .i64 k] w fun e w'=>e=.returned (.int .i64 (rF E.ck E.p E.T E.R k))∧Below w.heap.size w w':=by
  have HX:Hid (EngAt w a a' E):=h;obtain ⟨nx,ck,p,T,q,R⟩:=E;dsimp only at *;obtain ⟨-,hRA⟩:=h;dsimp only at hRA;have HSM:Hid (∀i,i<p→(T i).n≤1048576):=hsm;have HSK:Hid ((R k).n≤1048576):=hsr k hlt;have HTT:Hid (∀i,i<p→tF nx ck T i=0):=ht;have HP:Hid (p≤20):=hp;have hlt':(k:Int)<(q:Int):=(by omega);have hk0:(0:Int)≤(k:Int):=(by omega)
  rcases hRA with h | ⟨bb,off,rfl,hl,hcc⟩
  · omega
  obtain ⟨ai,ci,hCT,hun,-⟩:=hcc k hlt;have HUN:Hid (VersAt w ai (R k).n (R k).U):=hun
  have HCC:Hid (∀i,i<q→w.cell? ⟨bb,off+i*2,none⟩=some (.int .i64 (R i).key)):=fun i hi=>by obtain ⟨_,_,⟨h,_⟩,_⟩:=hcc i hi;exact h
  obtain ⟨x0,x1⟩:=hCT;have hbne:¬bb=w.heap.size:=(by omega);have y0:=fun o:Obj=>cell_alloc x0 o;have y1:=fun o:Obj=>cell_alloc x1 o;clear hcc hun hsm hsr ht hp x0 x1;generalize hC:rF ck p T R k=C
  have HBX:Hid (∀o1 o2:Obj,o1=.cells #[.int .i64 nx,.int .i64 ck,.slice a p cap,.slice (some ⟨bb,off,none⟩) q cap'] 30→o2=.cells #[.int .i64 (R k).key,.slice ai (R k).n ci] 173→
      Box4 ((w.alloc o1).alloc o2) w.heap.size (.int .i64 nx) (.int .i64 ck) (.slice a p cap) (.slice (some ⟨bb,off,none⟩) q cap')∧Box2 ((w.alloc o1).alloc o2) (w.heap.size+1) (.int .i64 (R k).key) (.slice ai (R k).n ci)):=by
    rintro o1 o2 rfl rfl;exact ⟨(Box4.new w _ _ _ _ _).alloc _,by simp [Box2,go_sem]⟩
  have HW:Hid (∀o1 o2:Obj,Below w.heap.size w ((w.alloc o1).alloc o2)):=fun o1 o2=>(((Below.refl _ _).alloc (Nat.le_refl _) _).alloc (by simp) _);go_enter Tryz.func143,Tryz.ntmps143;go_wp2_with fail;refine (isKey_any (R k).key _).mono ?_;rintro e w1 ⟨rfl,hw1⟩;have HB4:Hid (Box4 w1 w.heap.size (.int .i64 nx) (.int .i64 ck) (.slice a p cap) (.slice (some ⟨bb,off,none⟩) q cap')):=(by rw [hw1];exact (HBX.out _ _ rfl rfl).1);have HB2:Hid (Box2 w1 (w.heap.size+1) (.int .i64 (R k).key) (.slice ai (R k).n ci)):=(by rw [hw1];exact (HBX.out _ _ rfl rfl).2);have HB1:Hid (Below w.heap.size w w1):=(by rw [hw1];exact HW.out _ _);have HXR:Hid (EngAt w1 a (some ⟨bb,off,none⟩) ⟨nx,ck,p,T,q,R⟩):=HX.out.below HB1.out;have HUN1:Hid (VersAt w1 ai (R k).n (R k).U):=HUN.out.below HB1.out;have HCC1:Hid (∀i,i<q→w1.cell? ⟨bb,off+i*2,none⟩=some (.int .i64 (R i).key)):=fun i hi=>cell_below (HCC.out i hi) HB1.out;clear hw1 HBX HW y0 y1 HX HUN HCC
  obtain hk1 | hk1:=bool_or2 (inB (R k).key 0 31)
  case inr=>
    have HE:Hid (C=3):=hC.symm.trans (rF_3i hk1);rw [hk1];clear hC;go_wp2_with fail;go_ret;exact ⟨ret_int HE.out.symm,HB1.out⟩
  rw [hk1];have HC:Hid (rF ck p T R k=C):=hC;have HK1:Hid (inB (R k).key 0 31=true):=hk1;clear hC hk1;obtain ⟨b0,b1,b2,b3⟩:=HB4.out;obtain ⟨g0,g1⟩:=HB2.out;go_upto_region 4 with fail;go_cut [35] (fun cc wx=>cc=.bool (rB1 R k)∧∃m,wx=w1.drewN m)
  case first=>
    have h1B:Hid (rB1 R k=((decide (0<k) && decide ((R k).key≤(R (k-1)).key)) || (R k).n == 0)):=rfl
    have hn0:Hid (((R k).n == 0)=(((R k).n:Int) == 0)):=by
      show _=_
      rcases Nat.eq_zero_or_pos (R k).n with e | e
      · simp [e]
      · rw [show ((R k).n == 0)=false by simp;omega,show (((R k).n:Int) == 0)=false by simp;omega]
    clear HC
    rcases Nat.eq_zero_or_pos k with e | e
    · have hd:decide (0<k)=false:=by simp;omega
      have HV:Hid (rB1 R k=((R k).n == 0)):=(by show _=_;rw [h1B.out,hd];rfl);clear h1B e;go_quiet (fail);go_wp2_with fail;go_meet;refine ⟨?_,_,rfl⟩;rw [HV.out]
      first | rfl | rw [hn0.out]
    · obtain ⟨j,rfl⟩:∃j,k=j+1:=⟨k-1,by omega⟩;have y3:=HCC1.out j (by omega);have hj1:(j:Int)<(q:Int):=(by omega);have hj2:j<q:=(by omega);have hj8:(j:Int)+1<(q:Int):=(by omega);have hj7:(0:Int)≤(j:Int)+1:=(by omega);have hwj:IntKind.i64.wrap (j:Int)=(j:Int):=(by rw [IntKind.wrap_i64];omega)
      obtain hx1 | hx1:=bool_or2 (decide ((R (j+1)).key≤(R j).key))
      · have HV:Hid (rB1 R (j+1)=true):=by show _=_;rw [h1B.out,show decide (0<j+1)=true by simp,Nat.add_sub_cancel,hx1];rfl
        clear h1B e;go_quiet (fail);go_wp2_with fail;go_meet;refine ⟨?_,_,rfl⟩;rw [HV.out]
      · have HV:Hid (rB1 R (j+1)=((R (j+1)).n == 0)):=by show _=_;rw [h1B.out,show decide (0<j+1)=true by simp,Nat.add_sub_cancel,hx1];rfl
        clear h1B e;go_quiet (fail);go_wp2_with fail;go_meet;refine ⟨?_,_,rfl⟩;rw [HV.out]
        first | rfl | rw [hn0.out]
  case rest=>
    obtain ⟨rfl,m5,rfl⟩:=hcut;have HBD:Hid (Below w1.heap.size w1 (w1.drewN m5)):=below_drewN (Below.refl _ _) _;have HB2':Hid (Below w.heap.size w (w1.drewN m5)):=below_then HB1.out HBD.out;have HUN2:Hid (VersAt (w1.drewN m5) ai (R k).n (R k).U):=HUN1.out.below HBD.out;have HXR2:Hid (EngAt (w1.drewN m5) a (some ⟨bb,off,none⟩) ⟨nx,ck,p,T,q,R⟩):=HXR.out.below HBD.out;have HB42:=HB4.out.below HBD.out;have HB22:=HB2.out.below HBD.out;clear b0 b1 b2 b3 g0 g1 HBD HB1 HUN1 HXR HB4 HB2 HCC1 hl;generalize w1.drewN m5=w5 at *;obtain ⟨b0,b1,b2,b3⟩:=HB42;obtain ⟨g0,g1⟩:=HB22
    obtain h1 | h1:=bool_or2 (rB1 R k)
    · have HE:Hid (C=1):=HC.out.symm.trans (rF_1i HK1.out h1);rw [h1];clear HC h1;go_wp2_with fail;go_ret;exact ⟨ret_int HE.out.symm,HB2'.out⟩
    rw [h1];have hn0:=rB1_ni h1;go_wp2_with fail;refine (implChF_any (R k).n (R k).U ai ci w5 (by have:=HSK.out;omega) HUN2.out).mono ?_;rintro e w8 ⟨rfl,hb8⟩;have HB8:Hid (Below w.heap.size w w8):=below_then HB2'.out hb8;have HUN3:Hid (VersAt w8 ai (R k).n (R k).U):=HUN2.out.below hb8;have HXR3:Hid (EngAt w8 a (some ⟨bb,off,none⟩) ⟨nx,ck,p,T,q,R⟩):=HXR2.out.below hb8;replace b0:=cell_below b0 hb8;replace b1:=cell_below b1 hb8;replace b2:=cell_below b2 hb8;replace b3:=cell_below b3 hb8;replace g0:=cell_below g0 hb8;replace g1:=cell_below g1 hb8;clear hb8 HUN2 HXR2 HB2'
    by_cases hc:chF (R k).n (R k).U=0
    case neg=>
      have HE:Hid (C=chF (R k).n (R k).U):=HC.out.symm.trans (rF_ci HK1.out h1 hc);have hc2:(chF (R k).n (R k).U != 0)=true:=(by simp [hc]);clear HC hc;generalize chF (R k).n (R k).U=uu at *;go_wp2_with fail;go_ret;exact ⟨ret_int HE.out.symm,HB8.out⟩
    have HE1:Hid (C=if (rB2 ck (R k) || !opB p T (R k))=true then 1 else 0):=HC.out.symm.trans (rF_bi HK1.out h1 hc);have HE2:Hid (vfB ck p T (R k)=!(rB2 ck (R k) || !opB p T (R k))):=vfB_eq HTT.out hc hn0;have hn12:=(chF_good hc).1;rw [hc];clear hc h1 HC;go_wp2_with fail;refine (versionsFit_any ⟨nx,ck,p,T,q,R⟩ a cap (some ⟨bb,off,none⟩) cap' (R k) ai ci w8 HP.out HSM.out hn0 hn12 HXR3.out HUN3.out).mono ?_;rintro e w9 ⟨rfl,hb9⟩;have HB9:Hid (Below w.heap.size w w9):=below_then HB8.out hb9;clear hb9 b0 b1 b2 b3 g0 g1;rw [show vfB (En.mk nx ck p T q R).ck (En.mk nx ck p T q R).p (En.mk nx ck p T q R).T (R k)=vfB ck p T (R k) from rfl,HE2.out]
    obtain hb | hb:=bool_or2 (rB2 ck (R k) || !opB p T (R k))
    · have HE:Hid (C=1):=HE1.out.trans (if_pos hb);rw [hb];clear HE1 HE2 hb;go_wp2_with fail;go_ret;exact ⟨ret_int HE.out.symm,HB9.out⟩
    · have HE:Hid (C=0):=HE1.out.trans (if_neg (by simp [hb]));rw [hb];clear HE1 HE2 hb;go_wp2_with fail;go_ret;exact ⟨ret_int HE.out.symm,HB9.out⟩
end Go.Proofs.YtjdodbiphijjgaaGreat
