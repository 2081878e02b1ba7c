import Derived.Test.YtjdodbiphijjgaaGreatJRsa
import Derived.Test.YtjdodbiphijjgaaGreatJVn
import Derived.Test.YtjdodbiphijjgaaGreatJVl
namespace Go.Proofs.YtjdodbiphijjgaaGreat
open Go.RowKit Go.Deep
set_option linter.unusedVariables false
set_option linter.unusedSimpArgs false
set_option maxRecDepth 20000
theorem chainK2_any (E:En) (a:Option Addr) (cap:Nat) (a':Option Addr) (cap':Nat) (key:Int) (W0 w:World) (hb0:Below W0.heap.size W0 w) (hq:E.q≤32) (hs:∀j,j<E.q→∀i,i<j→(E.R i).key<(E.R j).key) (h:EngAt W0 a a' E) :
    Calls Tryz.prog 101 #[.agg #[.int .i64 E.nx,.int .i64 E.ck,.slice a E.p cap,.slice a' E.q cap'],.int .i64 key] w fun e w'=>∃ai ci,e=.returned (.slice ai (ckN E key) ci)∧Below w.heap.size w w'∧VersAt W0 ai (ckN E key) (ckU E key)∧ckN E key≤ci:=by
  have HK0:Hid (∀ci:Nat,fR E.q E.R key=-1→ckN E key=0):=fun _ h1=>by unfold ckN;rw [h1];rfl
  have HK1:Hid (∀j:Nat,fR E.q E.R key=(j:Int)→ckN E key=(E.R j).n∧ckU E key=(E.R j).U):=fun j h1=>by
    have h0:(0:Int)≤(j:Int):=(by omega);exact ⟨by unfold ckN;rw [h1,if_pos h0,Int.toNat_natCast],by unfold ckU;rw [h1,if_pos h0,Int.toNat_natCast]⟩
  generalize ckN E key=kn at *;generalize ckU E key=kU at *;obtain ⟨nx,ck,p,T,q,R⟩:=E;dsimp only at *;have HRW:Hid (RwsAt W0 a' q R):=h.2;have HW0:Hid (Below W0.heap.size W0 w):=hb0;have HRA:Hid (RwsAt w a' q R):=h.2.below hb0;have HS:Hid (∀j,j<q→∀i,i<j→(R i).key<(R j).key):=hs
  have HBX:Hid (∀o1:Obj,o1=.cells #[.int .i64 nx,.int .i64 ck,.slice a p cap,.slice a' q cap'] 30→Box4 (w.alloc o1) w.heap.size (.int .i64 nx) (.int .i64 ck) (.slice a p cap) (.slice a' q cap')):=by
    rintro o1 rfl;exact Box4.new w _ _ _ _ _
  clear h hs hb0;go_enter Tryz.func101,Tryz.ntmps101;go_wp2_with fail;refine (placeOfRow_any q R a' cap' key _ (by omega) HS.out (HRA.out.below (below_new _ _))).mono ?_;rintro e w1 ⟨i,rfl,hp,hb1⟩;have HB4:=(HBX.out _ rfl).below hb1;have HB1:Hid (Below w.heap.size w w1):=below_then (below_new _ _) hb1;obtain ⟨b0,b1,b2,b3⟩:=HB4;have HF:=pl_fR HS.out hp;clear hb1 hp HBX b0 b1 b2
  rcases HF with ⟨h1,h2⟩ | ⟨h1,h2,h3⟩
  · rw [h1];obtain rfl:kn=0:=HK0.out 0 h2;clear h1 h2 HK0 HK1;go_wp2_with fail;go_ret;exact ⟨none,0,rfl,HB1.out,.inl rfl,Nat.le_refl _⟩
  · rw [h1]
    rcases HRW.out with h | ⟨bb,off,rfl,hl,hcc⟩
    · omega
    obtain ⟨ai,ci,⟨x0,x1⟩,hv,hle⟩:=hcc i h2;have HV:Hid (VersAt W0 ai (R i).n (R i).U∧(R i).n≤ci):=⟨hv,hle⟩;replace x1:=cell_below x1 HW0.out;obtain ⟨rfl,rfl⟩:=HK1.out i h3;replace x1:=cell_below x1 HB1.out;have hi1:(i:Int)<(q:Int):=(by omega);have hi0:(0:Int)≤(i:Int):=(by omega);clear h1 h3 hcc hv x0 HK0 HK1 hle;go_wp2_with fail;go_ret;exact ⟨ai,ci,rfl,HB1.out,HV.out.1,HV.out.2⟩
theorem own4_wide {w:World} {lo hi lo' hi' n:Nat} {A:Option Addr} {U:Nat→Vr} (h:Own4 w lo hi A n U) (h1:lo'≤lo) (h2:hi≤hi') (h3:hi'≤w.heap.size):Own4 w lo' hi' A n U:=by
  obtain ⟨h0,h9 | ⟨b,off,e,k1,k2,k3⟩⟩:=h
  · exact ⟨h3,.inl h9⟩
  · exact ⟨h3,.inr ⟨b,off,e,Nat.le_trans h1 k1,Nat.lt_of_lt_of_le k2 h2,k3⟩⟩
theorem vwKeepD {W w2:World} {T:TypeId} (hb:Below (W.drew.alloc (.cells #[.int .i64 0,.int .i64 0] T)).heap.size (W.drew.alloc (.cells #[.int .i64 0,.int .i64 0] T)) w2):w2.cell? ⟨W.heap.size,0,none⟩=some (.int .i64 0)∧w2.cell? ⟨W.heap.size,1,none⟩=some (.int .i64 0)∧∀i,w2.frozen? ⟨W.heap.size,i,none⟩=false:=
  ⟨cell_below (by simp [go_sem]) hb,cell_below (by simp [go_sem]) hb,fun i=>((bcell2 hb).2 _ _ (by simp)).trans (by simp [go_sem])⟩
theorem vwKeepE {W w2:World} {T:TypeId} (hb:Below (W.alloc (.cells #[.int .i64 0,.int .i64 0] T)).drew.heap.size (W.alloc (.cells #[.int .i64 0,.int .i64 0] T)).drew w2):w2.cell? ⟨W.heap.size,0,none⟩=some (.int .i64 0)∧w2.cell? ⟨W.heap.size,1,none⟩=some (.int .i64 0)∧∀i,w2.frozen? ⟨W.heap.size,i,none⟩=false:=
  vwKeepD (T:=T) hb
theorem vwKeep {W w2:World} {T:TypeId} (hb:Below (W.alloc (.cells #[.int .i64 0,.int .i64 0] T)).heap.size (W.alloc (.cells #[.int .i64 0,.int .i64 0] T)) w2):w2.cell? ⟨W.heap.size,0,none⟩=some (.int .i64 0)∧w2.cell? ⟨W.heap.size,1,none⟩=some (.int .i64 0)∧∀i,w2.frozen? ⟨W.heap.size,i,none⟩=false:=
  ⟨cell_below (by simp [go_sem]) hb,cell_below (by simp [go_sem]) hb,fun i=>((bcell2 hb).2 _ _ (by simp)).trans (by simp [go_sem])⟩
theorem vwKeep2 {W w2:World} {B:Nat} {v:Value} (h0:W.cell? ⟨B,0,none⟩=some v) (h1:W.cell? ⟨B,1,none⟩=some v) (hf:∀i,W.frozen? ⟨B,i,none⟩=false) (hb:Below W.heap.size W w2):w2.cell? ⟨B,0,none⟩=some v∧w2.cell? ⟨B,1,none⟩=some v∧∀i,w2.frozen? ⟨B,i,none⟩=false:=
  ⟨cell_below h0 hb,cell_below h1 hb,fun i=>((bcell2 hb).2 _ _ (World.block_lt_of_cell? W _ h0)).trans (hf i)⟩
def cwC (E:En) (j:Nat) (key v:Int) (g:Bool):Int:=
  if g=true∧seC (ckN E key) (ckU E key) (E.T j).am (E.T j).id≠0 then seC (ckN E key) (ckU E key) (E.T j).am (E.T j).id else
  if mwC (ckN E key) (ckU E key) (E.T j).am (E.T j).id≠0 then mwC (ckN E key) (ckU E key) (E.T j).am (E.T j).id else
  if (E.T j).n=60 then 2 else pvC (ckN E key) (ckU E key) (E.T j).am (E.T j).id g v
def CwA (c:Int) (m:Nat) (S:Nat→Vr) (w:World) (e:Ending) (w':World):Prop:=
  (c=0∧∃ai ci,e=.returned (.slice ai m ci)∧ShA ai m ci∧Below w.heap.size w w'∧Own4 w' w.heap.size w'.heap.size ai m S)∨(c≠0∧e=Rf c∧Below w.heap.size w w')
set_option maxHeartbeats 16000000 in
theorem chainTo_any (E:En) (a:Option Addr) (cap:Nat) (a':Option Addr) (cap':Nat) (j:Nat) (key v:Int) (g:Bool) (w:World) (h0:eF E=0) (hj:j<E.p) (h:EngAt w a a' E) :
    Calls Tryz.prog 121 #[.agg #[.int .i64 E.nx,.int .i64 E.ck,.slice a E.p cap,.slice a' E.q cap'],.int .i64 j,.agg #[.int .i64 key,.int .i64 v],.bool g] w (CwA (cwC E j key v g) (pvN (ckN E key) (ckU E key) (E.T j).am (E.T j).id g v) (pvS (ckN E key) (ckU E key) (E.T j).id g v) w):=by
  have HXA:Hid (EngAt w a a' E):=h;have HSO:Hid (∀j,j<E.q→∀i,i<j→(E.R i).key<(E.R j).key):=keys_rise (eF_good h0).2.2.2;have h32:=(eF_pq h0).2;have hp20:=(eF_pq h0).1
  have hk12:ckN E key≤12:=by
    unfold ckN;split
    · rename_i hh
      rcases fR_cases E.q E.R key with hz | ⟨i,hi,hz⟩
      · omega
      · rw [hz,Int.toNat_natCast];exact rows12 h0 i hi
    · omega
  have HBX:Hid (∀o1 o2:Obj,o1=.cells #[.int .i64 E.nx,.int .i64 E.ck,.slice a E.p cap,.slice a' E.q cap'] 30→o2=.cells #[.int .i64 key,.int .i64 v] 114→
      Box4 ((w.alloc o1).alloc o2) w.heap.size (.int .i64 E.nx) (.int .i64 E.ck) (.slice a E.p cap) (.slice a' E.q cap')∧Box2 ((w.alloc o1).alloc o2) (w.heap.size+1) (.int .i64 key) (.int .i64 v)∧Below w.heap.size w ((w.alloc o1).alloc o2)∧((w.alloc o1).alloc o2).heap.size=w.heap.size+2):=by
    rintro o1 o2 rfl rfl;exact ⟨(Box4.new w _ _ _ _ _).alloc _,by simp [Box2,go_sem],((Below.refl _ _).alloc (Nat.le_refl _) _).alloc (by simp) _,by simp⟩
  have hmx:Tryz.prog.follows .mixedOrders=true:=(by kernel_rfl)
  have hfld:∀(u:World) (a b:Value),(Instr.field 84 (.agg #[a,b]) 0).run Tryz.prog u=.ok a u:=fun u a b=>by kernel_rfl
  clear h;go_enter Tryz.func121,Tryz.ntmps121;go_upto_region 1 with fail;obtain ⟨hb4,hb2,hbw,hbs⟩:=HBX.out _ _ rfl rfl;generalize ((w.alloc (.cells #[.int .i64 E.nx,.int .i64 E.ck,.slice a E.p cap,.slice a' E.q cap'] 30)).alloc (.cells #[.int .i64 key,.int .i64 v] 114))=W at *;have HXW:Hid (EngAt W a a' E):=HXA.out.below hbw;have HBW:Hid (Below w.heap.size w W):=hbw;have hws:w.heap.size+2≤W.heap.size:=Nat.le_of_eq hbs.symm;obtain ⟨b0,b1,b2,b3⟩:=hb4;obtain ⟨k0,k1⟩:=hb2;have c0:=b0;have c1:=b1;have c2:=b2;have c3:=b3;have x0:=k0
  rcases HXW.out.1 with h | ⟨bb,off,rfl,hl,hcc⟩
  · omega
  obtain ⟨ti,tc,⟨d0,d1,d2,d3,d4⟩,-,-⟩:=hcc j hj;have hj1:(j:Int)<(E.p:Int):=(by omega);have hj0:(0:Int)≤(j:Int):=(by omega);have HZ:Hid (w.heap.size+2=W.heap.size):=hbs.symm;have t0:=d0;have t1:=d1;have t2:=d2;have t3:=d3;have t4:=d4;have HX:Hid (Below W.heap.size W W):=Below.refl _ _;have Ab0:=fun o:Obj=>cell_alloc (w:=W) b0 o;have Ab1:=fun o:Obj=>cell_alloc (w:=W) b1 o;have Ab2:=fun o:Obj=>cell_alloc (w:=W) b2 o;have Ab3:=fun o:Obj=>cell_alloc (w:=W) b3 o;have Ak0:=fun o:Obj=>cell_alloc (w:=W) k0 o;have At0:=fun o:Obj=>cell_alloc (w:=W) t0 o;have At1:=fun o:Obj=>cell_alloc (w:=W) t1 o;have At2:=fun o:Obj=>cell_alloc (w:=W) t2 o;have At3:=fun o:Obj=>cell_alloc (w:=W) t3 o;have At4:=fun o:Obj=>cell_alloc (w:=W) t4 o;have hq1:bb≠W.heap.size:=(by omega);have hq2:w.heap.size≠W.heap.size:=(by omega);have hq3:w.heap.size+1≠W.heap.size:=(by omega);clear hcc HBX hbs hbw;go_cut [9,10] (fun c9 c10 wx=>∃(ai:Option Addr) (ci B:Nat),c9=.slice ai (ckN E key) ci∧c10=.pointer (some ⟨B,0,none⟩)∧Hid (VersAt W ai (ckN E key) (ckU E key)∧ckN E key≤ci)∧Hid (Box2 wx B (.int .i64 (E.T j).am) (.int .i64 (E.T j).id))∧Hid (Below W.heap.size W wx)∧Hid (W.heap.size≤B))
  case first=>
    go_region_law (first | (go_simp;go_at_call 101;refine (chainK2_any E _ cap a' cap' key W _ (by repeat (first | exact HX.out | apply Below.drew | refine Below.alloc ?_ (by first | omega | (simp <;> omega)) _)) h32 HSO.out HXW.out).mono ?_;rintro e wc2 ⟨ai,ci,rfl,hb2,hvc,hle⟩;have HVC:Hid (VersAt W ai (ckN E key) (ckU E key)∧ckN E key≤ci):=⟨hvc,hle⟩;clear hvc hle;have HX:Hid (Below W.heap.size W wc2):=below_then (by repeat (first | exact HX.out | apply Below.drew | refine Below.alloc ?_ (by first | omega | (simp <;> omega)) _)) hb2;have hzx:=HX.out.size;have hq1:bb≠wc2.heap.size:=(by omega);have hq2:w.heap.size≠wc2.heap.size:=(by omega);have hq3:w.heap.size+1≠wc2.heap.size:=(by omega);have b0:=cell_below c0 HX.out;have b1:=cell_below c1 HX.out;have b2:=cell_below c2 HX.out;have b3:=cell_below c3 HX.out;have k0:=cell_below x0 HX.out;have t0:=cell_below d0 HX.out;have t1:=cell_below d1 HX.out;have t2:=cell_below d2 HX.out;have t3:=cell_below d3 HX.out;have t4:=cell_below d4 HX.out;have Ab0:=fun o:Obj=>cell_alloc b0 o;have Ab1:=fun o:Obj=>cell_alloc b1 o;have Ab2:=fun o:Obj=>cell_alloc b2 o;have Ab3:=fun o:Obj=>cell_alloc b3 o;have Ak0:=fun o:Obj=>cell_alloc k0 o;have At0:=fun o:Obj=>cell_alloc t0 o;have At1:=fun o:Obj=>cell_alloc t1 o;have At2:=fun o:Obj=>cell_alloc t2 o;have At3:=fun o:Obj=>cell_alloc t3 o;have At4:=fun o:Obj=>cell_alloc t4 o;(first | (have hA:=vwKeep2 hA0 hA1 hAf hb2;obtain ⟨hA0,hA1,hAf⟩:=hA) | (have hA:=vwKeepD hb2;obtain ⟨hA0,hA1,hAf⟩:=hA) | (have hA:=vwKeepE hb2;obtain ⟨hA0,hA1,hAf⟩:=hA) | (have hA:=vwKeep hb2;obtain ⟨hA0,hA1,hAf⟩:=hA) | skip)) | (go_simp;go_at_call 102;refine (viewOf_any (E.T j) ti tc _).mono ?_;rintro e wv2 ⟨rfl,hb2⟩;have HX:Hid (Below W.heap.size W wv2):=below_then (by repeat (first | exact HX.out | apply Below.drew | refine Below.alloc ?_ (by first | omega | (simp <;> omega)) _)) hb2;have hzx:=HX.out.size;have hq1:bb≠wv2.heap.size:=(by omega);have hq2:w.heap.size≠wv2.heap.size:=(by omega);have hq3:w.heap.size+1≠wv2.heap.size:=(by omega);have b0:=cell_below c0 HX.out;have b1:=cell_below c1 HX.out;have b2:=cell_below c2 HX.out;have b3:=cell_below c3 HX.out;have k0:=cell_below x0 HX.out;have t0:=cell_below d0 HX.out;have t1:=cell_below d1 HX.out;have t2:=cell_below d2 HX.out;have t3:=cell_below d3 HX.out;have t4:=cell_below d4 HX.out;have Ab0:=fun o:Obj=>cell_alloc b0 o;have Ab1:=fun o:Obj=>cell_alloc b1 o;have Ab2:=fun o:Obj=>cell_alloc b2 o;have Ab3:=fun o:Obj=>cell_alloc b3 o;have Ak0:=fun o:Obj=>cell_alloc k0 o;have At0:=fun o:Obj=>cell_alloc t0 o;have At1:=fun o:Obj=>cell_alloc t1 o;have At2:=fun o:Obj=>cell_alloc t2 o;have At3:=fun o:Obj=>cell_alloc t3 o;have At4:=fun o:Obj=>cell_alloc t4 o;(first | (have hA:=vwKeep2 hA0 hA1 hAf hb2;obtain ⟨hA0,hA1,hAf⟩:=hA) | (have hA:=vwKeepD hb2;obtain ⟨hA0,hA1,hAf⟩:=hA) | (have hA:=vwKeepE hb2;obtain ⟨hA0,hA1,hAf⟩:=hA) | (have hA:=vwKeep hb2;obtain ⟨hA0,hA1,hAf⟩:=hA) | skip)))
    all_goals
      go_wp2_with fail;go_meet;refine ⟨ai,ci,_,rfl,rfl,HVC,?_,?_,?_⟩
      · show Box2 _ _ _ _
        first | (simp [Box2,go_sem];done) | (simp [Box2,go_sem,hA0,hA1];done)
      · show Below _ _ _
        repeat (first | exact HX.out | apply Below.drew | refine Below.setCell ?_ (by first | omega | (simp <;> omega)) _ | refine Below.alloc ?_ (by first | omega | (simp <;> omega)) _)
      · show _≤_
        first | omega | (simp <;> omega)
  case rest=>
    obtain ⟨ai,ci,B,rfl,rfl,HVC,HBX2,HBW2,hBle⟩:=hcut;obtain ⟨r0,r1⟩:=HBX2.out;obtain ⟨hvc,hle⟩:=HVC.out;have HVwc:=hvc.below HBW2.out;have HBwc:Hid (Below w.heap.size w wc):=below_then HBW.out HBW2.out;replace b2:=cell_below b2 HBW2.out;replace k1:=cell_below k1 HBW2.out;replace t4:=cell_below t4 HBW2.out;have hk63:ckN E key≤9223372036854775807:=(by omega);have HC:Hid (cwC E j key v g=if g=true∧seC (ckN E key) (ckU E key) (E.T j).am (E.T j).id≠0 then seC (ckN E key) (ckU E key) (E.T j).am (E.T j).id else if mwC (ckN E key) (ckU E key) (E.T j).am (E.T j).id≠0 then mwC (ckN E key) (ckU E key) (E.T j).am (E.T j).id else if (E.T j).n=60 then 2 else pvC (ckN E key) (ckU E key) (E.T j).am (E.T j).id g v):=rfl;have HSE:Hid (∀a c w,VersAt w a (ckN E key) (ckU E key)→Calls Tryz.prog 100 #[.slice a (ckN E key) c,.agg #[.int .i64 (E.T j).am,.int .i64 (E.T j).id]] w fun e w'=>e=.returned (.agg #[.int .i64 (seC (ckN E key) (ckU E key) (E.T j).am (E.T j).id),.int .i64 (seV (ckN E key) (ckU E key) (E.T j).am (E.T j).id)])∧Below w.heap.size w w'):=fun a c w hv=>implSe_any _ _ a c _ _ w hk63 hv;have HMW:Hid (∀a c w,VersAt w a (ckN E key) (ckU E key)→Calls Tryz.prog 179 #[.slice a (ckN E key) c,.agg #[.int .i64 (E.T j).am,.int .i64 (E.T j).id]] w fun e w'=>e=.returned (.int .i64 (mwC (ckN E key) (ckU E key) (E.T j).am (E.T j).id))∧Below w.heap.size w w'):=fun a c w hv=>implMw_any _ _ a c _ _ w hk63 hv;have HPV:Hid (∀a c w,ckN E key≤c→VersAt w a (ckN E key) (ckU E key)→Calls Tryz.prog 180 #[.slice a (ckN E key) c,.agg #[.int .i64 (E.T j).am,.int .i64 (E.T j).id],.bool g,.int .i64 v] w (CResC (pvC (ckN E key) (ckU E key) (E.T j).am (E.T j).id g v) (pvN (ckN E key) (ckU E key) (E.T j).am (E.T j).id g v) (pvS (ckN E key) (ckU E key) (E.T j).id g v) w)):=fun a c w hc hv=>implPvC_any _ _ a c hc _ _ g v w hk63 hv;clear c0 c1 c2 c3 x0 d0 d1 d2 d3 d4 t0 t1 t2 t3 Ab0 Ab1 Ab2 Ab3 Ak0 At0 At1 At2 At3 At4 HX hq1 hq2 hq3 HVC hvc HBX2 HXW HBW b0 b1 b3 k0 hk63 hk12 hmx;generalize cwC E j key v g=C at *;generalize pvC (ckN E key) (ckU E key) (E.T j).am (E.T j).id g v=PC at *;generalize pvN (ckN E key) (ckU E key) (E.T j).am (E.T j).id g v=M at *;generalize pvS (ckN E key) (ckU E key) (E.T j).id g v=S at *;generalize seC (ckN E key) (ckU E key) (E.T j).am (E.T j).id=SC at *;generalize seV (ckN E key) (ckU E key) (E.T j).am (E.T j).id=SV at *;generalize mwC (ckN E key) (ckU E key) (E.T j).am (E.T j).id=MC at *;generalize ckN E key=kn at *;generalize ckU E key=kU at *;generalize (E.T j).am=am at *;generalize (E.T j).id=tid at *;generalize (E.T j).n=n at *;cases g with
    | false=>
      have hnot:¬(false=true∧SC≠0):=(by simp);go_wp2_with fail;refine (HMW.out _ _ wc HVwc).mono ?_;rintro e w5 ⟨rfl,hb5⟩;have HB5:Hid (Below w.heap.size w w5):=below_then HBwc.out hb5;replace b2:=cell_below b2 hb5;replace k1:=cell_below k1 hb5;replace t4:=cell_below t4 hb5;replace r0:=cell_below r0 hb5;replace r1:=cell_below r1 hb5;have HV5:=HVwc.below hb5;go_wp2_with fail;refine (refuse_any MC _).mono ?_
      rintro e w6 ⟨⟨hm,rfl⟩ | ⟨hm,rfl⟩,hww⟩ <;> (replace hww:=hww.symm;subst hww)
      case inr=>exact ⟨rfl,.inr ⟨by rw [HC.out,if_neg hnot,if_pos hm];exact hm,by rw [HC.out,if_neg hnot,if_pos hm];rfl,HB5.out⟩⟩
      by_cases h60:n=60
      · subst h60;go_wp2_with fail;refine (refuse_any 2 _).mono ?_
        rintro e w7 ⟨⟨h9,rfl⟩ | ⟨h9,rfl⟩,hww⟩ <;> (replace hww:=hww.symm;subst hww)
        · exact absurd h9 (by decide)
        · exact ⟨rfl,.inr ⟨by rw [HC.out,if_neg hnot,if_neg (by simp [hm])];simp,by rw [HC.out,if_neg hnot,if_neg (by simp [hm])];simp [Rf],HB5.out⟩⟩
      have h60i:¬((n:Int)=60):=(by omega);have h60b:((n:Int) == 60)=false:=(by simp [h60i]);have HE:Hid (C=PC):=(by rw [Hid,HC.out,if_neg hnot,if_neg (by simp [hm]),if_neg h60]);clear h60;go_wp2_with fail;refine (HPV.out _ _ _ hle HV5).mono ?_;rintro e w7 ⟨pa,pc,rfl,hsh,hb7,ho⟩;have HB7:Hid (Below w.heap.size w w7):=below_then HB5.out hb7;have HO:Hid (ShA pa M pc∧Own4 w7 w5.heap.size w7.heap.size pa M S):=⟨hsh,ho⟩;have HZ5:Hid (w.heap.size≤w5.heap.size):=HB5.out.size;clear hsh ho hb7 hb5 b2 k1 t4 r0 r1 HV5;go_wp2_with fail;refine (refuse_any PC _).mono ?_
      rintro e w8 ⟨⟨hp,rfl⟩ | ⟨hp,rfl⟩,hww⟩ <;> (replace hww:=hww.symm;subst hww)
      case inr=>
        have hz7:=HB7.out.size;refine ⟨rfl,.inr ⟨by rw [HE.out];exact hp,by rw [HE.out];rfl,?_⟩⟩
        repeat (first | exact HB7.out | refine Below.setCell ?_ (by first | omega | (simp <;> omega)) _ | refine Below.alloc ?_ (by first | omega | (simp <;> omega)) _)
      go_wp2_with fail;have hz7:=HB7.out.size;have hz57:=HZ5.out;go_ret;refine .inl ⟨HE.out.trans hp,pa,pc,rfl,HO.out.1,?_,?_⟩
      · repeat (first | exact HB7.out | refine Below.setCell ?_ (by first | omega | (simp <;> omega)) _ | refine Below.alloc ?_ (by first | omega | (simp <;> omega)) _)
      · exact own4_wide (HO.out.2.below (below_new _ _)) hz57 (by simp) (Nat.le_refl _)
    | true=>
      go_wp2_with fail;refine (HSE.out _ _ wc HVwc).mono ?_;rintro e w3 ⟨rfl,hb3⟩;have HBw3:Hid (Below w.heap.size w w3):=below_then HBwc.out hb3;replace b2:=cell_below b2 hb3;replace k1:=cell_below k1 hb3;replace t4:=cell_below t4 hb3;replace r0:=cell_below r0 hb3;replace r1:=cell_below r1 hb3;have HVw3:=HVwc.below hb3;go_wp2_with fail;refine (refuse_any SC _).mono ?_
      rintro e w4 ⟨⟨hs0,rfl⟩ | ⟨hs0,rfl⟩,hww⟩ <;> (replace hww:=hww.symm;subst hww)
      case inr=>exact ⟨rfl,.inr ⟨by rw [HC.out];simp [hs0],by rw [HC.out];simp [hs0,Rf],HBw3.out⟩⟩
      have hnot:¬(true=true∧SC≠0):=(by simp [hs0]);clear hb3 HVwc HBwc;go_wp2_with fail;refine (HMW.out _ _ w3 HVw3).mono ?_;rintro e w5 ⟨rfl,hb5⟩;have HB5:Hid (Below w.heap.size w w5):=below_then HBw3.out hb5;replace b2:=cell_below b2 hb5;replace k1:=cell_below k1 hb5;replace t4:=cell_below t4 hb5;replace r0:=cell_below r0 hb5;replace r1:=cell_below r1 hb5;have HV5:=HVw3.below hb5;go_wp2_with fail;refine (refuse_any MC _).mono ?_
      rintro e w6 ⟨⟨hm,rfl⟩ | ⟨hm,rfl⟩,hww⟩ <;> (replace hww:=hww.symm;subst hww)
      case inr=>exact ⟨rfl,.inr ⟨by rw [HC.out,if_neg hnot,if_pos hm];exact hm,by rw [HC.out,if_neg hnot,if_pos hm];rfl,HB5.out⟩⟩
      by_cases h60:n=60
      · subst h60;go_wp2_with fail;refine (refuse_any 2 _).mono ?_
        rintro e w7 ⟨⟨h9,rfl⟩ | ⟨h9,rfl⟩,hww⟩ <;> (replace hww:=hww.symm;subst hww)
        · exact absurd h9 (by decide)
        · exact ⟨rfl,.inr ⟨by rw [HC.out,if_neg hnot,if_neg (by simp [hm])];simp,by rw [HC.out,if_neg hnot,if_neg (by simp [hm])];simp [Rf],HB5.out⟩⟩
      have h60i:¬((n:Int)=60):=(by omega);have h60b:((n:Int) == 60)=false:=(by simp [h60i]);have HE:Hid (C=PC):=(by rw [Hid,HC.out,if_neg hnot,if_neg (by simp [hm]),if_neg h60]);clear h60;go_wp2_with fail;refine (HPV.out _ _ _ hle HV5).mono ?_;rintro e w7 ⟨pa,pc,rfl,hsh,hb7,ho⟩;have HB7:Hid (Below w.heap.size w w7):=below_then HB5.out hb7;have HO:Hid (ShA pa M pc∧Own4 w7 w5.heap.size w7.heap.size pa M S):=⟨hsh,ho⟩;have HZ5:Hid (w.heap.size≤w5.heap.size):=HB5.out.size;clear hsh ho hb7 hb5 b2 k1 t4 r0 r1 HV5;go_wp2_with fail;refine (refuse_any PC _).mono ?_
      rintro e w8 ⟨⟨hp,rfl⟩ | ⟨hp,rfl⟩,hww⟩ <;> (replace hww:=hww.symm;subst hww)
      case inr=>
        have hz7:=HB7.out.size;refine ⟨rfl,.inr ⟨by rw [HE.out];exact hp,by rw [HE.out];rfl,?_⟩⟩
        repeat (first | exact HB7.out | refine Below.setCell ?_ (by first | omega | (simp <;> omega)) _ | refine Below.alloc ?_ (by first | omega | (simp <;> omega)) _)
      go_wp2_with fail;have hz7:=HB7.out.size;have hz57:=HZ5.out;go_ret;refine .inl ⟨HE.out.trans hp,pa,pc,rfl,HO.out.1,?_,?_⟩
      · repeat (first | exact HB7.out | refine Below.setCell ?_ (by first | omega | (simp <;> omega)) _ | refine Below.alloc ?_ (by first | omega | (simp <;> omega)) _)
      · exact own4_wide (HO.out.2.below (below_new _ _)) hz57 (by simp) (Nat.le_refl _)
end Go.Proofs.YtjdodbiphijjgaaGreat
