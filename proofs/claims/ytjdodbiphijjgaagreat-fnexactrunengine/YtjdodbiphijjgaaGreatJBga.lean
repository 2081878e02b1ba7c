import Derived.Test.YtjdodbiphijjgaaGreatJCmc
import Derived.Test.YtjdodbiphijjgaaGreatJVj
import Derived.Test.YtjdodbiphijjgaaGreatJVn
import Derived.Test.YtjdodbiphijjgaaGreatJNa
import Derived.Test.YtjdodbiphijjgaaGreatJCb
import Derived.Test.YtjdodbiphijjgaaGreatJNb
import Derived.Test.YtjdodbiphijjgaaGreatJBase
namespace Go.Proofs.YtjdodbiphijjgaaGreat
open Go.RowKit Go.Deep
set_option linter.unusedVariables false
set_option maxRecDepth 20000
open Go.ChangeShapes Go.WideShapes Go.ChangeAt Go.RowKit Go.Deep Go.Joins
set_option linter.unusedSimpArgs false
theorem ERes.to2 {c v:Int} {G:En} {w w':World} {e:Ending} (h:ERes c v G w e w'):ERes2 c v G w e w':=by
  obtain ⟨a,cap,a',cap',h1,h2,h3⟩:=h;exact ⟨a,cap,a',cap',h1,h2,h3.to2⟩
def newTx (E:En):Tx:=⟨E.nx,E.ck,1,0,0,fun _=>zU⟩
def btG (E:En):En:=⟨E.nx+1,E.ck,E.p+1,upf E.T E.p (newTx E),E.q,E.R⟩
def btC (E:En):Int:=if eF E=0 then (if E.p=20∨E.nx=999 then 2 else 0) else eF E
def btV (E:En):Int:=if btC E=0 then E.nx else 0
def btE (E:En):En:=if btC E=0 then btG E else zEn
theorem bt_bad {E:En} (h:eF E≠0):btC E=eF E∧btV E=0∧btE E=zEn:=by
  have e:btC E=eF E:=if_neg h;exact ⟨e,if_neg (by rw [e];exact h),if_neg (by rw [e];exact h)⟩
theorem bt_full {E:En} (h:eF E=0) (hf:E.p=20∨E.nx=999):btC E=2∧btV E=0∧btE E=zEn:=by
  have e:btC E=2:=(by unfold btC;rw [if_pos h,if_pos hf]);exact ⟨e,if_neg (by rw [e];omega),if_neg (by rw [e];omega)⟩
theorem bt_ok {E:En} (h:eF E=0) (hf:¬(E.p=20∨E.nx=999)):btC E=0∧btV E=E.nx∧btE E=btG E:=by
  have e:btC E=0:=(by unfold btC;rw [if_pos h,if_neg hf]);exact ⟨e,if_pos e,if_pos e⟩
set_option maxHeartbeats 16000000 in
theorem implBt_any (E:En) (a:Option Addr) (cap:Nat) (a':Option Addr) (cap':Nat) (w:World) (hs:SmallE E) (h:EngAt w a a' E) :
    Calls Tryz.prog 43 #[.agg #[.int .i64 E.nx,.int .i64 E.ck,.slice a E.p cap,.slice a' E.q cap']] w (ERes2 (btC E) (btV E) (btE E) w):=by
  have HXA:Hid (EngAt w a a' E):=h;have HS:Hid (SmallE E):=hs;clear h hs
  have HBX:Hid (∀o1 o2:Obj,o1=.cells #[.int .i64 E.nx,.int .i64 E.ck,.slice a E.p cap,.slice a' E.q cap'] 30→o2=.cells #[.int .i64 0,.int .i64 0,.int .i64 0,.int .i64 0,.slice none 0 0,.slice none 0 0] 32→
      Box4 ((w.alloc o1).alloc o2) w.heap.size (.int .i64 E.nx) (.int .i64 E.ck) (.slice a E.p cap) (.slice a' E.q cap')∧Box6 ((w.alloc o1).alloc o2) (w.heap.size+1) (.int .i64 0) (.int .i64 0) (.int .i64 0) (.int .i64 0) (.slice none 0 0) (.slice none 0 0)∧(∀i,((w.alloc o1).alloc o2).frozen? ⟨w.heap.size+1,i,none⟩=false)∧Below w.heap.size w ((w.alloc o1).alloc o2)∧((w.alloc o1).alloc o2).heap.size=w.heap.size+2):=by
    rintro o1 o2 rfl rfl;exact ⟨(Box4.new w _ _ _ _ _).alloc _,by simp [Box6,go_sem],fun i=>by simp [go_sem],((Below.refl _ _).alloc (Nat.le_refl _) _).alloc (by simp) _,by simp⟩
  go_enter Tryz.func43,Tryz.ntmps43;go_wp2_with fail;obtain ⟨hb4,hb2,hbf,hbw,hbs⟩:=HBX.out _ _ rfl rfl;refine (implEf_any E a cap a' cap' _ HS.out (HXA.out.below hbw)).mono ?_;rintro e W ⟨rfl,hb1⟩;have HB4:Hid (Box4 W w.heap.size (.int .i64 E.nx) (.int .i64 E.ck) (.slice a E.p cap) (.slice a' E.q cap')):=hb4.below hb1;have HR6:Hid (Box6 W (w.heap.size+1) (.int .i64 0) (.int .i64 0) (.int .i64 0) (.int .i64 0) (.slice none 0 0) (.slice none 0 0)):=hb2.below hb1;have HRF:Hid (∀i,W.frozen? ⟨w.heap.size+1,i,none⟩=false):=fun i=>((bcell2 hb1).2 _ _ (by rw [hbs];omega)).trans (hbf i);have HBW:Hid (Below w.heap.size w W):=below_then hbw hb1;have hs1:w.heap.size+2≤W.heap.size:=(by have:=hb1.size;rw [hbs] at this;exact this);clear hb1 hb4 hb2 hbf hbw hbs HBX
  by_cases hc:eF E=0
  case neg=>
    have HF:Hid (∀w7,Below w.heap.size w w7→ERes2 (btC E) (btV E) (btE E) w (.returned (.agg #[.int .i64 (eF E),.int .i64 0,.int .i64 0,.int .i64 0,.slice none 0 0,.slice none 0 0])) w7):=fun w7 hb=>by
      rw [(bt_bad hc).1,(bt_bad hc).2.1,(bt_bad hc).2.2];exact (eres_bad hb).to2
    have hc2:(eF E != 0)=true:=(by simp [hc]);obtain ⟨r0,r1,r2,r3,r4,r5⟩:=HR6.out;have rf:=HRF.out;clear hc;generalize eF E=uu at *;go_wp2_with fail;refine bodyPost_ret (v:=.agg #[.int .i64 uu,.int .i64 0,.int .i64 0,.int .i64 0,.slice none 0 0,.slice none 0 0]) (by simp [results,Tryz.results43,go_sem, *]) rfl ?_;refine HF.out _ ?_
    repeat (first | with_reducible exact HBW.out | with_reducible refine Below.setCell ?_ (by first | omega | (simp <;> omega)) _)
  have HEX:Hid (EngAt W a a' E):=HXA.out.below HBW.out;have h32:=(eF_pq hc).2;have hp20:=(eF_pq hc).1;have HU60:Hid (∀i,i<E.p→(E.T i).n≤60):=undos60 hc;have HR12:Hid (∀i,i<E.q→(E.R i).n≤12):=rows12 hc;have hnx:=(eF_good hc).1;have HHC:Hid (eF E=0):=hc;obtain ⟨b0,b1,b2,b3⟩:=HB4.out;rw [hc];clear hc
  by_cases hfull:E.p=20∨E.nx=999
  · have HF:Hid (∀w7,Below w.heap.size w w7→ERes2 (btC E) (btV E) (btE E) w (.returned (.agg #[.int .i64 2,.int .i64 0,.int .i64 0,.int .i64 0,.slice none 0 0,.slice none 0 0])) w7):=fun w7 hb=>by
      have e:=bt_full HHC.out hfull;rw [e.1,e.2.1,e.2.2];exact (eres_bad hb).to2
    obtain ⟨r0,r1,r2,r3,r4,r5⟩:=HR6.out;have rf:=HRF.out
    by_cases hp:E.p=20
    · have hp1:((E.p:Int) == 20)=true:=by simp;omega
      clear hfull;go_wp2_with fail;refine bodyPost_ret (v:=.agg #[.int .i64 2,.int .i64 0,.int .i64 0,.int .i64 0,.slice none 0 0,.slice none 0 0]) (by simp [results,Tryz.results43,go_sem, *]) rfl ?_;refine HF.out _ ?_
      repeat (first | with_reducible exact HBW.out | with_reducible refine Below.setCell ?_ (by first | omega | (simp <;> omega)) _)
    · have hp1:((E.p:Int) == 20)=false:=by simp;omega
      have hp2:(E.nx == 999)=true:=(by simp;omega);clear hfull;go_wp2_with fail;refine bodyPost_ret (v:=.agg #[.int .i64 2,.int .i64 0,.int .i64 0,.int .i64 0,.slice none 0 0,.slice none 0 0]) (by simp [results,Tryz.results43,go_sem, *]) rfl ?_;refine HF.out _ ?_
      repeat (first | with_reducible exact HBW.out | with_reducible refine Below.setCell ?_ (by first | omega | (simp <;> omega)) _)
  have hp1:((E.p:Int) == 20)=false:=(by simp;omega);have hp2:(E.nx == 999)=false:=(by simp;omega);have HE:Hid (btC E=0∧btV E=E.nx∧btE E=btG E):=bt_ok HHC.out hfull;have hwrap:IntKind.i64.wrap (E.nx+1)=E.nx+1:=(by rw [IntKind.wrap_i64];omega);clear hfull;go_wp2_with fail;refine (copyEngine_any E _ cap a' cap' W hp20 h32 HU60.out HR12.out HEX.out).mono ?_;rintro e w2 ⟨v,v',b0',M,rfl,hb2,hb0,hM,hgt,hgr⟩;obtain ⟨va,vc,rfl,-,hOT⟩:=hgt.own;obtain ⟨va',vc',rfl,-,hOR⟩:=hgr.own;have hMz:M≤w2.heap.size:=hOT.1;have hs2:=hb2.size
  have HW4:Hid (∀o3 o4:Obj,o3=.cells #[.int .i64 E.nx,.int .i64 E.ck,.slice va E.p vc,.slice va' E.q vc'] 30→o4=.cells #[.int .i64 E.nx,.int .i64 E.ck,.int .i64 1,.int .i64 0,.slice none 0 0] 127→Below W.heap.size W ((w2.alloc o3).alloc o4)∧((w2.alloc o3).alloc o4).heap.size=w2.heap.size+2∧GrTx b0' M ((w2.alloc o3).alloc o4) (.slice va E.p vc) E.p E.T∧OwnRw ((w2.alloc o3).alloc o4) M w2.heap.size va' E.q E.R∧Box4 ((w2.alloc o3).alloc o4) w2.heap.size (.int .i64 E.nx) (.int .i64 E.ck) (.slice va E.p vc) (.slice va' E.q vc')∧(∀i,((w2.alloc o3).alloc o4).frozen? ⟨w2.heap.size,i,none⟩=false)∧CTx ((w2.alloc o3).alloc o4) (w2.heap.size+1) 0 (newTx E) none 0):=by
    rintro o3 o4 rfl rfl;exact ⟨below_then (below_then hb2 (below_new _ _)) (below_new _ _),by simp,(hgt.below (below_new _ _)).below (below_new _ _),(hOR.below (below_new _ _)).below (below_new _ _),(Box4.new _ _ _ _ _ _).alloc _,fun i=>by simp [go_sem],lit_tx (newTx E) (by simp)⟩
  have d0:=fun o:Obj=>cell_alloc (cell_below b0 hb2) o;have d1:=fun o:Obj=>cell_alloc (cell_below b1 hb2) o;clear hb2 hgt hgr hOT hOR;go_wp2_with (at_builtin;refine wpList_grTxP _ rfl (.tmp 24) (.tmp 30) rfl b0' M (.slice va E.p vc) E.p E.T rfl (HW4.out _ _ rfl rfl).2.2.1 (w2.heap.size+1) 0 1 (newTx E) none 0 rfl (HW4.out _ _ rfl rfl).2.2.2.2.2.2 hM rfl (by omega) ?_);intro g gc w5 hO5 hg5 hq5;obtain ⟨k1,k2,-,k4,k5,k6,-⟩:=HW4.out _ _ rfl rfl;have hw5:=grown_writes2 hg5 hq5;have HB5:Hid (Below W.heap.size W w5):=Writes.below k1 hw5 hb0;have hz5:w2.heap.size+2≤w5.heap.size:=(by have:=hw5.size;rw [k2] at this;exact this);have HR5:Hid (OwnRw w5 M w2.heap.size va' E.q E.R):=k4.writes hw5 (.inr (Nat.le_refl _));have HO5:Hid (OwnTxP w5 (fun x=>(b0'≤x∧x<M)∨(w2.heap.size+2≤x∧x<w5.heap.size)) (some ⟨g,0,none⟩) (E.p+1) (upf E.T E.p (newTx E))):=hO5;have c5:=k5.writes hw5 (.inr hMz);have cf:∀i,w5.frozen? ⟨w2.heap.size,i,none⟩=false:=fun i=>(World.frozen?_of_block (a:=⟨w2.heap.size,i,none⟩) (hw5.block w2.heap.size (by rw [k2];omega) (.inr hMz))).trans (k6 i);obtain ⟨c0,c1,c2,c3⟩:=c5;clear k1 k2 k4 k5 k6 hw5 hO5 hg5 hq5 HW4 b0 b1 b2 b3 d0 d1;obtain ⟨b0,b1,b2,b3⟩:=HB4.out.below HB5.out;obtain ⟨S,hS⟩:∃x,x=(w5.setCell ⟨w2.heap.size,2,none⟩ (.slice (some ⟨g,0,none⟩) (E.p+1) gc)).setCell ⟨w2.heap.size,0,none⟩ (.int .i64 (E.nx+1)):=⟨_,rfl⟩
  have hwS:Writes w2.heap.size (w2.heap.size+1) w5 S:=by
    rw [hS];exact Writes.setCell (Writes.setCell (Writes.refl _ _ _) (p:=⟨w2.heap.size,2,none⟩) (Nat.le_refl _) (Nat.lt_succ_self _) _) (p:=⟨w2.heap.size,0,none⟩) (Nat.le_refl _) (Nat.lt_succ_self _) _
  have hzS:S.heap.size=w5.heap.size:=(by rw [hS];simp [World.setCell]);have HBS:Hid (Below W.heap.size W S):=Writes.below HB5.out hwS hs2;have HRS:Hid (OwnRw S M w2.heap.size va' (btG E).q (btG E).R):=HR5.out.writes hwS (.inl (Nat.le_refl _))
  have HOS:Hid (OwnTxP S (fun x=>(b0'≤x∧x<M)∨(w2.heap.size+2≤x∧x<w5.heap.size)) (some ⟨g,0,none⟩) (btG E).p (btG E).T):=HO5.out.writes hwS fun x hx=>by omega
  have HCS:Hid (Box4 S w2.heap.size (.int .i64 (E.nx+1)) (.int .i64 E.ck) (.slice (some ⟨g,0,none⟩) (E.p+1) gc) (.slice va' E.q vc')):=by
    rw [hS];exact ⟨setS ((setO (by omega)).trans c0),(setO (by omega)).trans ((setO (by omega)).trans c1),(setO (by omega)).trans (setS c2),(setO (by omega)).trans ((setO (by omega)).trans c3)⟩
  go_upto_region 9 with fail;rw [←hS];clear hS hwS c0 c1 c2 c3 cf HO5 HR5 HB5 b0 b1 b2 b3;obtain ⟨c0,c1,c2,c3⟩:=HCS.out;obtain ⟨b0,b1,b2,b3⟩:=HB4.out.below HBS.out;obtain ⟨r0,r1,r2,r3,r4,r5⟩:=HR6.out.below HBS.out;have rf:∀i,S.frozen? ⟨w.heap.size+1,i,none⟩=false:=fun i=>((bcell2 HBS.out).2 _ _ (by omega)).trans (HRF.out i)
  have HF:Hid (∀w7,Writes (w.heap.size+1) (w.heap.size+2) S w7→w7.heap.size=S.heap.size→ERes2 (btC E) (btV E) (btE E) w (.returned (.agg #[.int .i64 0,.int .i64 E.nx,.int .i64 (E.nx+1),.int .i64 E.ck,.slice (some ⟨g,0,none⟩) (E.p+1) gc,.slice va' E.q vc'])) w7):=fun w7 hw hs7=>by
    rw [HE.out.1,HE.out.2.1,HE.out.2.2];exact eres_own2 (E':=btG E) (Z:=w2.heap.size+2) (Y:=w5.heap.size) (below_then HBW.out HBS.out) (by omega) (by omega) hM hMz (by omega) (by omega) (by omega) (by omega) HOS.out HRS.out hw hs7
  clear HOS HRS HCS;go_wp2_with fail;refine bodyPost_ret (v:=.agg #[.int .i64 0,.int .i64 E.nx,.int .i64 (E.nx+1),.int .i64 E.ck,.slice (some ⟨g,0,none⟩) (E.p+1) gc,.slice va' E.q vc']) (by simp [results,Tryz.results43,go_sem, *]) rfl ?_;refine HF.out _ ?_ (by simp [World.setCell])
  repeat (first | with_reducible exact Writes.refl _ _ _ | with_reducible refine Writes.setCell ?_ (by first | omega | (simp <;> omega)) (by first | omega | (simp <;> omega)) _)
set_option maxHeartbeats 16000000 in
theorem specBt_any (E:En) (a:Option Addr) (cap:Nat) (a':Option Addr) (cap':Nat) (w:World) (hs:SmallE E) (h:EngAt w a a' E) :
    Calls Tryz.prog 134 #[.agg #[.int .i64 E.nx,.int .i64 E.ck,.slice a E.p cap,.slice a' E.q cap']] w (ERes2 (btC E) (btV E) (btE E) w):=by
  have HXA:Hid (EngAt w a a' E):=h;have HS:Hid (SmallE E):=hs;clear h hs
  have HBX:Hid (∀o1 o2:Obj,o1=.cells #[.int .i64 E.nx,.int .i64 E.ck,.slice a E.p cap,.slice a' E.q cap'] 30→o2=.cells #[.int .i64 0,.int .i64 0,.int .i64 0,.int .i64 0,.slice none 0 0,.slice none 0 0] 32→
      Box4 ((w.alloc o1).alloc o2) w.heap.size (.int .i64 E.nx) (.int .i64 E.ck) (.slice a E.p cap) (.slice a' E.q cap')∧Box6 ((w.alloc o1).alloc o2) (w.heap.size+1) (.int .i64 0) (.int .i64 0) (.int .i64 0) (.int .i64 0) (.slice none 0 0) (.slice none 0 0)∧(∀i,((w.alloc o1).alloc o2).frozen? ⟨w.heap.size+1,i,none⟩=false)∧Below w.heap.size w ((w.alloc o1).alloc o2)∧((w.alloc o1).alloc o2).heap.size=w.heap.size+2):=by
    rintro o1 o2 rfl rfl;exact ⟨(Box4.new w _ _ _ _ _).alloc _,by simp [Box6,go_sem],fun i=>by simp [go_sem],((Below.refl _ _).alloc (Nat.le_refl _) _).alloc (by simp) _,by simp⟩
  go_enter Tryz.func134,Tryz.ntmps134;go_wp2_with fail;obtain ⟨hb4,hb2,hbf,hbw,hbs⟩:=HBX.out _ _ rfl rfl;refine (l6Fault_any E w.heap.size a cap a' cap' _ HS.out ⟨hb4,HXA.out.below hbw⟩).mono ?_;rintro e W ⟨rfl,hb1⟩;have HB4:Hid (Box4 W w.heap.size (.int .i64 E.nx) (.int .i64 E.ck) (.slice a E.p cap) (.slice a' E.q cap')):=hb4.below hb1;have HR6:Hid (Box6 W (w.heap.size+1) (.int .i64 0) (.int .i64 0) (.int .i64 0) (.int .i64 0) (.slice none 0 0) (.slice none 0 0)):=hb2.below hb1;have HRF:Hid (∀i,W.frozen? ⟨w.heap.size+1,i,none⟩=false):=fun i=>((bcell2 hb1).2 _ _ (by rw [hbs];omega)).trans (hbf i);have HBW:Hid (Below w.heap.size w W):=below_then hbw hb1;have hs1:w.heap.size+2≤W.heap.size:=(by have:=hb1.size;rw [hbs] at this;exact this);clear hb1 hb4 hb2 hbf hbw hbs HBX
  by_cases hc:eF E=0
  case neg=>
    have HF:Hid (∀w7,Below w.heap.size w w7→ERes2 (btC E) (btV E) (btE E) w (.returned (.agg #[.int .i64 (eF E),.int .i64 0,.int .i64 0,.int .i64 0,.slice none 0 0,.slice none 0 0])) w7):=fun w7 hb=>by
      rw [(bt_bad hc).1,(bt_bad hc).2.1,(bt_bad hc).2.2];exact (eres_bad hb).to2
    have hc2:(eF E != 0)=true:=(by simp [hc]);clear hc;generalize eF E=uu at *;go_wp2_with fail;refine (l6Bad_any uu _).mono ?_;rintro e w9 ⟨rfl,hb9⟩;have HB9:Hid (Below w.heap.size w w9):=below_then HBW.out hb9;obtain ⟨r0,r1,r2,r3,r4,r5⟩:=HR6.out.below hb9;have rf:∀i,w9.frozen? ⟨w.heap.size+1,i,none⟩=false:=fun i=>((bcell2 hb9).2 _ _ (by omega)).trans (HRF.out i);clear hb9;go_wp2_with fail;refine bodyPost_ret (v:=.agg #[.int .i64 uu,.int .i64 0,.int .i64 0,.int .i64 0,.slice none 0 0,.slice none 0 0]) (by simp [results,Tryz.results134,go_sem, *]) rfl ?_;refine HF.out _ ?_
    repeat (first | with_reducible exact HB9.out | with_reducible refine Below.setCell ?_ (by first | omega | (simp <;> omega)) _)
  have HEX:Hid (EngAt W a a' E):=HXA.out.below HBW.out;have h32:=(eF_pq hc).2;have hp20:=(eF_pq hc).1;have HU60:Hid (∀i,i<E.p→(E.T i).n≤60):=undos60 hc;have HR12:Hid (∀i,i<E.q→(E.R i).n≤12):=rows12 hc;have hnx:=(eF_good hc).1;have HHC:Hid (eF E=0):=hc;obtain ⟨b0,b1,b2,b3⟩:=HB4.out;rw [hc];clear hc
  by_cases hfull:E.p=20∨E.nx=999
  · have HF:Hid (∀w7,Below w.heap.size w w7→ERes2 (btC E) (btV E) (btE E) w (.returned (.agg #[.int .i64 2,.int .i64 0,.int .i64 0,.int .i64 0,.slice none 0 0,.slice none 0 0])) w7):=fun w7 hb=>by
      have e:=bt_full HHC.out hfull;rw [e.1,e.2.1,e.2.2];exact (eres_bad hb).to2
    by_cases hp:E.p=20
    · have hp1:(20:Int)≤(E.p:Int):=by omega
      clear hfull;go_wp2_with fail;refine (l6Bad_any 2 _).mono ?_;rintro e w9 ⟨rfl,hb9⟩;have HB9:Hid (Below w.heap.size w w9):=below_then HBW.out hb9;obtain ⟨r0,r1,r2,r3,r4,r5⟩:=HR6.out.below hb9;have rf:∀i,w9.frozen? ⟨w.heap.size+1,i,none⟩=false:=fun i=>((bcell2 hb9).2 _ _ (by omega)).trans (HRF.out i);clear hb9;go_wp2_with fail;refine bodyPost_ret (v:=.agg #[.int .i64 2,.int .i64 0,.int .i64 0,.int .i64 0,.slice none 0 0,.slice none 0 0]) (by simp [results,Tryz.results134,go_sem, *]) rfl ?_;refine HF.out _ ?_
      repeat (first | with_reducible exact HB9.out | with_reducible refine Below.setCell ?_ (by first | omega | (simp <;> omega)) _)
    · have hp1:¬((20:Int)≤(E.p:Int)):=by omega
      have hp2:(E.nx == 999)=true:=(by simp;omega);clear hfull;go_wp2_with fail;refine (l6Bad_any 2 _).mono ?_;rintro e w9 ⟨rfl,hb9⟩;have HB9:Hid (Below w.heap.size w w9):=below_then HBW.out hb9;obtain ⟨r0,r1,r2,r3,r4,r5⟩:=HR6.out.below hb9;have rf:∀i,w9.frozen? ⟨w.heap.size+1,i,none⟩=false:=fun i=>((bcell2 hb9).2 _ _ (by omega)).trans (HRF.out i);clear hb9;go_wp2_with fail;refine bodyPost_ret (v:=.agg #[.int .i64 2,.int .i64 0,.int .i64 0,.int .i64 0,.slice none 0 0,.slice none 0 0]) (by simp [results,Tryz.results134,go_sem, *]) rfl ?_;refine HF.out _ ?_
      repeat (first | with_reducible exact HB9.out | with_reducible refine Below.setCell ?_ (by first | omega | (simp <;> omega)) _)
  have hp1:¬((20:Int)≤(E.p:Int)):=(by omega);have hp2:(E.nx == 999)=false:=(by simp;omega);have HE:Hid (btC E=0∧btV E=E.nx∧btE E=btG E):=bt_ok HHC.out hfull;have hwrap:IntKind.i64.wrap (E.nx+1)=E.nx+1:=(by rw [IntKind.wrap_i64];omega);clear hfull;go_wp2_with fail;refine (l6Copy_any E _ cap a' cap' W hp20 h32 HU60.out HR12.out HEX.out).mono ?_;rintro e w2 ⟨v,v',b0',M,rfl,hb2,hb0,hM,hgt,hgr⟩;obtain ⟨va,vc,rfl,-,hOT⟩:=hgt.own;obtain ⟨va',vc',rfl,-,hOR⟩:=hgr.own;have hMz:M≤w2.heap.size:=hOT.1;have hs2:=hb2.size
  have HW4:Hid (∀o3 o4:Obj,o3=.cells #[.int .i64 E.nx,.int .i64 E.ck,.slice va E.p vc,.slice va' E.q vc'] 30→o4=.cells #[.int .i64 E.nx,.int .i64 E.ck,.int .i64 1,.int .i64 0,.slice none 0 0] 127→Below W.heap.size W ((w2.alloc o3).alloc o4)∧((w2.alloc o3).alloc o4).heap.size=w2.heap.size+2∧GrTx b0' M ((w2.alloc o3).alloc o4) (.slice va E.p vc) E.p E.T∧OwnRw ((w2.alloc o3).alloc o4) M w2.heap.size va' E.q E.R∧Box4 ((w2.alloc o3).alloc o4) w2.heap.size (.int .i64 E.nx) (.int .i64 E.ck) (.slice va E.p vc) (.slice va' E.q vc')∧(∀i,((w2.alloc o3).alloc o4).frozen? ⟨w2.heap.size,i,none⟩=false)∧CTx ((w2.alloc o3).alloc o4) (w2.heap.size+1) 0 (newTx E) none 0):=by
    rintro o3 o4 rfl rfl;exact ⟨below_then (below_then hb2 (below_new _ _)) (below_new _ _),by simp,(hgt.below (below_new _ _)).below (below_new _ _),(hOR.below (below_new _ _)).below (below_new _ _),(Box4.new _ _ _ _ _ _).alloc _,fun i=>by simp [go_sem],lit_tx (newTx E) (by simp)⟩
  have d0:=fun o:Obj=>cell_alloc (cell_below b0 hb2) o;have d1:=fun o:Obj=>cell_alloc (cell_below b1 hb2) o;clear hb2 hgt hgr hOT hOR;go_wp2_with (at_builtin;refine wpList_grTxP _ rfl (.tmp 23) (.tmp 29) rfl b0' M (.slice va E.p vc) E.p E.T rfl (HW4.out _ _ rfl rfl).2.2.1 (w2.heap.size+1) 0 1 (newTx E) none 0 rfl (HW4.out _ _ rfl rfl).2.2.2.2.2.2 hM rfl (by omega) ?_);intro g gc w5 hO5 hg5 hq5;obtain ⟨k1,k2,-,k4,k5,k6,-⟩:=HW4.out _ _ rfl rfl;have hw5:=grown_writes2 hg5 hq5;have HB5:Hid (Below W.heap.size W w5):=Writes.below k1 hw5 hb0;have hz5:w2.heap.size+2≤w5.heap.size:=(by have:=hw5.size;rw [k2] at this;exact this);have HR5:Hid (OwnRw w5 M w2.heap.size va' E.q E.R):=k4.writes hw5 (.inr (Nat.le_refl _));have HO5:Hid (OwnTxP w5 (fun x=>(b0'≤x∧x<M)∨(w2.heap.size+2≤x∧x<w5.heap.size)) (some ⟨g,0,none⟩) (E.p+1) (upf E.T E.p (newTx E))):=hO5;have c5:=k5.writes hw5 (.inr hMz);have cf:∀i,w5.frozen? ⟨w2.heap.size,i,none⟩=false:=fun i=>(World.frozen?_of_block (a:=⟨w2.heap.size,i,none⟩) (hw5.block w2.heap.size (by rw [k2];omega) (.inr hMz))).trans (k6 i);obtain ⟨c0,c1,c2,c3⟩:=c5;clear k1 k2 k4 k5 k6 hw5 hO5 hg5 hq5 HW4 b0 b1 b2 b3 d0 d1;obtain ⟨b0,b1,b2,b3⟩:=HB4.out.below HB5.out;obtain ⟨S,hS⟩:∃x,x=(w5.setCell ⟨w2.heap.size,2,none⟩ (.slice (some ⟨g,0,none⟩) (E.p+1) gc)).setCell ⟨w2.heap.size,0,none⟩ (.int .i64 (E.nx+1)):=⟨_,rfl⟩
  have hwS:Writes w2.heap.size (w2.heap.size+1) w5 S:=by
    rw [hS];exact Writes.setCell (Writes.setCell (Writes.refl _ _ _) (p:=⟨w2.heap.size,2,none⟩) (Nat.le_refl _) (Nat.lt_succ_self _) _) (p:=⟨w2.heap.size,0,none⟩) (Nat.le_refl _) (Nat.lt_succ_self _) _
  have hzS:S.heap.size=w5.heap.size:=(by rw [hS];simp [World.setCell]);have HBS:Hid (Below W.heap.size W S):=Writes.below HB5.out hwS hs2;have HRS:Hid (OwnRw S M w2.heap.size va' (btG E).q (btG E).R):=HR5.out.writes hwS (.inl (Nat.le_refl _))
  have HOS:Hid (OwnTxP S (fun x=>(b0'≤x∧x<M)∨(w2.heap.size+2≤x∧x<w5.heap.size)) (some ⟨g,0,none⟩) (btG E).p (btG E).T):=HO5.out.writes hwS fun x hx=>by omega
  have HCS:Hid (Box4 S w2.heap.size (.int .i64 (E.nx+1)) (.int .i64 E.ck) (.slice (some ⟨g,0,none⟩) (E.p+1) gc) (.slice va' E.q vc')):=by
    rw [hS];exact ⟨setS ((setO (by omega)).trans c0),(setO (by omega)).trans ((setO (by omega)).trans c1),(setO (by omega)).trans (setS c2),(setO (by omega)).trans ((setO (by omega)).trans c3)⟩
  go_upto_region 9 with fail;rw [←hS];clear hS hwS c0 c1 c2 c3 cf HO5 HR5 HB5 b0 b1 b2 b3;obtain ⟨c0,c1,c2,c3⟩:=HCS.out;obtain ⟨b0,b1,b2,b3⟩:=HB4.out.below HBS.out;obtain ⟨r0,r1,r2,r3,r4,r5⟩:=HR6.out.below HBS.out;have rf:∀i,S.frozen? ⟨w.heap.size+1,i,none⟩=false:=fun i=>((bcell2 HBS.out).2 _ _ (by omega)).trans (HRF.out i)
  have HF:Hid (∀w7,Writes (w.heap.size+1) (w.heap.size+2) S w7→w7.heap.size=S.heap.size→ERes2 (btC E) (btV E) (btE E) w (.returned (.agg #[.int .i64 0,.int .i64 E.nx,.int .i64 (E.nx+1),.int .i64 E.ck,.slice (some ⟨g,0,none⟩) (E.p+1) gc,.slice va' E.q vc'])) w7):=fun w7 hw hs7=>by
    rw [HE.out.1,HE.out.2.1,HE.out.2.2];exact eres_own2 (E':=btG E) (Z:=w2.heap.size+2) (Y:=w5.heap.size) (below_then HBW.out HBS.out) (by omega) (by omega) hM hMz (by omega) (by omega) (by omega) (by omega) HOS.out HRS.out hw hs7
  clear HOS HRS HCS;go_wp2_with fail;refine bodyPost_ret (v:=.agg #[.int .i64 0,.int .i64 E.nx,.int .i64 (E.nx+1),.int .i64 E.ck,.slice (some ⟨g,0,none⟩) (E.p+1) gc,.slice va' E.q vc']) (by simp [results,Tryz.results134,go_sem, *]) rfl ?_;refine HF.out _ ?_ (by simp [World.setCell])
  repeat (first | with_reducible exact Writes.refl _ _ _ | with_reducible refine Writes.setCell ?_ (by first | omega | (simp <;> omega)) (by first | omega | (simp <;> omega)) _)
theorem take_next {α:Type} {xs:List α} {k:Nat} {x:α} (h:xs[k]? = some x):xs.take (k+1)=xs.take k ++ [x]:=by rw [List.take_add_one,h];rfl
theorem row_base {w:World} {base base' n s:Nat} {e:TypeId} {v:Value} {xs:List Value} (h:w.ownsRow base e s v n xs) (hb:base'≤base):w.ownsRow base' e s v n xs:=by
  refine ⟨h.1,?_⟩
  rcases h.2 with h | ⟨g,c,cu,e1,e2,e3⟩
  · exact .inl h
  · exact .inr ⟨g,c,cu,e1,Nat.le_trans hb e2,e3⟩
structure HRw where
  t:Rw
  A:Option Addr
  c:Nat
  l:Nat
  h:Nat
def keyRw (x:HRw):Int:=x.t.key
def hbRw:List HRw→List Value
  | []=>[]
  | x :: xs=>rcRw x.t x.A x.c ++ hbRw xs
theorem hbRw_app:∀xs ys,hbRw (xs ++ ys)=hbRw xs ++ hbRw ys
  | [],ys=>rfl
  | x :: xs,ys=>by simp [hbRw,hbRw_app xs ys]
theorem hbRw_len:∀xs,(hbRw xs).length=xs.length*2
  | []=>rfl
  | x :: xs=>by
    have:=hbRw_len xs;simp only [hbRw,List.length_append,this,rcRw,List.length_cons,List.length_nil];omega
theorem hbRw_get:∀(xs:List HRw) (i j:Nat) (x:HRw),xs[i]? = some x→j<2→(hbRw xs)[i*2+j]? = (rcRw x.t x.A x.c)[j]?
  | [],i,j,x,h,hj=>by simp at h
  | y :: ys,0,j,x,h,hj=>by
    simp only [List.getElem?_cons_zero,Option.some.injEq] at h;subst h;rw [hbRw,List.getElem?_append_left (by simp [rcRw];omega),Nat.zero_mul,Nat.zero_add]
  | y :: ys,i+1,j,x,h,hj=>by
    rw [List.getElem?_cons_succ] at h;rw [hbRw,List.getElem?_append_right (by simp [rcRw];omega)];have:=hbRw_get ys i j x h hj;rw [←this]
    congr 1
    simp [rcRw];omega
def HAtRw (w:World) (a:Option Addr) (xs:List HRw):Prop:=xs=[]∨∃b off,a=some ⟨b,off,none⟩∧b<w.heap.size∧∀i x,xs[i]? = some x→CRw w b (off+i*2) x.t x.A x.c
theorem HAtRw.below {w w':World} {a:Option Addr} {xs:List HRw} (h:HAtRw w a xs) (hb:Below w.heap.size w w'):HAtRw w' a xs:=by
  rcases h with h | ⟨b,off,ha,hl,hc⟩
  · exact .inl h
  · exact .inr ⟨b,off,ha,Nat.lt_of_lt_of_le hl hb.size,fun i x hi=>(hc i x hi).block (hb.block _ hl)⟩
theorem HAtRw.of_row {w:World} {base n:Nat} {v:Value} {xs:List HRw} (hn:xs.length=n) (h:w.ownsRow base 173 2 v n (hbRw xs)):∃a cap,v=.slice a n cap∧n≤cap∧HAtRw w a xs:=by
  rcases h.2 with ⟨rfl,h0⟩ | ⟨g,cap,cur,rfl,hbg,hg,hc,_⟩
  · exact ⟨none,0,by rw [h0],by omega,.inl (List.eq_nil_of_length_eq_zero (by omega))⟩
  · have hlt:g<w.heap.size:=(Array.getElem?_eq_some_iff.1 hg).1;refine ⟨some ⟨g,0,none⟩,cap,rfl,hc,.inr ⟨g,0,rfl,hlt,fun i x hi=>?_⟩⟩;have hil:i<n:=(by rw [←hn];exact (List.getElem?_eq_some_iff.1 hi).1)
    have hcc:∀j u,j<2→(rcRw x.t x.A x.c)[j]? = some u→w.cell? ⟨g,0+i*2+j,none⟩=some u:=fun j u hj hu=>by
      rw [Nat.zero_add,h.cellAt (i*2+j) (by omega),hbRw_get xs i j x hi hj,hu]
    exact ⟨hcc 0 _ (by omega) rfl,hcc 1 _ (by omega) rfl⟩
theorem wp_appHRw {o:Oper} {a:Act} {Kc:Act→World→Prop} {Q:Exit→Act→World→Prop} (w:World) (s x:Operand)
    (ho:o.op=.call { callee:=.builtin .append,args:=#[s,x],argTypes:=#[28,28] })
    (base:Nat) (v:Value) (m:Nat) (xs:List HRw) (hm:xs.length=m) (hs:a.eval s=v) (hown:w.ownsRow base 173 2 v m (hbRw xs)) (Y cx:Nat) (y:HRw) (hx:a.eval x=.slice (some ⟨Y,0,none⟩) 1 cx) (hC:CRw w Y 0 y.t y.A y.c) (hb:base≤w.heap.size) (hl:m≤100000)
    (hK:∀v' w',w'.ownsRow base 173 2 v' (m+1) (hbRw (xs ++ [y]))→w.grownBy w' v.ownBlock→Kc (a.put o.dst v') w'):o.wp Tryz.prog a w Kc Q:=by
  obtain ⟨i0,hi,hz0,hz1,hz2⟩:=info_parts2 infoRw;refine wp_append_own w s x 28 ho base 173 i0 _ 2 32 Tryz.underlying28 hi hz0 hz1 hz2 rfl (by decide) v m (hbRw xs) hs hown ⟨Y,0,none⟩ 1 cx (rcRw y.t y.A y.c) hx rfl (fun j u hju=>?_) (rcRw_one _ _ _) (by unfold maxLen;omega) (by omega) hb fun v' w' h2 h3 _=>hK v' w' ?_ h3
  · obtain ⟨h0,h1⟩:=hC;rw [WideShapes.add_plain];have hd:j<2:=(by have:=(List.getElem?_eq_some_iff.1 hju).1;simpa [rcRw] using this);have hd2:j=0∨j=1:=(by omega)
    rcases hd2 with rfl | rfl
    · rw [←hju];exact h0
    · rw [←hju];exact h1
  · rw [hbRw_app]
    simpa [hbRw] using h2
theorem wpList_appHRw {ops:Array Oper} {rest:List Oper} {o:Oper} {a:Act} {Q:Exit→Act→World→Prop} (w:World) (hgd:o.guard=none) (s x:Operand)
    (ho:o.op=.call { callee:=.builtin .append,args:=#[s,x],argTypes:=#[28,28] })
    (base:Nat) (v:Value) (m:Nat) (xs:List HRw) (hm:xs.length=m) (hs:a.eval s=v) (hown:w.ownsRow base 173 2 v m (hbRw xs)) (Y cx:Nat) (y:HRw) (hx:a.eval x=.slice (some ⟨Y,0,none⟩) 1 cx) (hC:CRw w Y 0 y.t y.A y.c) (hb:base≤w.heap.size) (hl:m≤100000)
    (hK:∀v' w',w'.ownsRow base 173 2 v' (m+1) (hbRw (xs ++ [y]))→w.grownBy w' v.ownBlock→wpList Tryz.prog ops Q rest (a.put o.dst v') w'):wpList Tryz.prog ops Q (o :: rest) a w:=
  wpList_plain hgd fun _ hKK=>wp_appHRw w s x ho base v m xs hm hs hown Y cx y hx hC hb hl fun v' w' h2 h3=>hKK _ _ (hK v' w' h2 h3)
def RiRw (xs:List HRw):Prop:=xs.Pairwise (fun x y=>keyRw x<keyRw y)
def CtRw (w:World) (B M:Nat) (x:HRw):Prop:=(x.h=0∨B≤x.l∧x.h≤M)∧x.t.n≤x.c∧Own4 w x.l x.h x.A x.t.n x.t.U
def ApRw (xs:List HRw):Prop:=xs.Pairwise (fun x y=>x.h≤y.l∨y.h≤x.l)
theorem CtRw.writes {w w':World} {B M lo hi:Nat} {x:HRw} (h:CtRw w B M x) (hw:Writes lo hi w w') (hd:hi≤B∨M≤lo):CtRw w' B M x:=by
  obtain ⟨h1,h2,h3⟩:=h;exact ⟨h1,h2,h3.writes hw (by omega)⟩
theorem CtRw.below {w w':World} {B M:Nat} {x:HRw} (h:CtRw w B M x) (hb:Below w.heap.size w w'):CtRw w' B M x:=by
  obtain ⟨h1,h2,h3⟩:=h;exact ⟨h1,h2,h3.below hb⟩
theorem CtRw.mono {w:World} {B M B' M':Nat} {x:HRw} (h:CtRw w B M x) (h1:B'≤B) (h2:M≤M'):CtRw w B' M' x:=by
  obtain ⟨k1,k2,k3⟩:=h;exact ⟨by omega,k2,k3⟩
theorem hb_rangeRw (T:Nat→Rw) (A:Nat→Option Addr) (c l h:Nat→Nat):∀k,hbRw ((List.range k).map (fun i=>(⟨T i,A i,c i,l i,h i⟩:HRw)))=rbRw T A c k
  | 0=>rfl
  | k+1=>by
    rw [List.range_succ,List.map_append,hbRw_app,hb_rangeRw T A c l h k];simp [hbRw,rbRw]
theorem GrRw.list {base top k:Nat} {w:World} {v:Value} {T:Nat→Rw} (h:GrRw base top w v k T):∃xs:List HRw,xs.length=k∧xs.map HRw.t=(List.range k).map T∧w.ownsRow base 173 2 v k (hbRw xs)∧(∀q,v.ownBlock=some q→q<top)∧ApRw xs∧∀x ∈ xs,(∀q,v.ownBlock=some q→q<x.l∨x.h≤q)∧CtRw w base top x:=by
  obtain ⟨h0,A,c,l,h,ho,hv,hj,hc⟩:=h;refine ⟨(List.range k).map (fun i=>⟨T i,A i,c i,l i,h i⟩),by simp,by simp,by rw [hb_rangeRw];exact ho,hv,?_,fun x hx=>?_⟩
  · refine List.pairwise_iff_getElem.2 fun i j hi hj' hlt=>?_;simp only [List.length_map,List.length_range] at hi hj';simp only [List.getElem_map,List.getElem_range];exact hj i j hi hj' (by omega)
  · obtain ⟨i,hi,rfl⟩:=List.mem_map.1 hx;obtain ⟨m1,m2,m3,m4⟩:=hc i (List.mem_range.1 hi);exact ⟨m1,m2,m3,m4⟩
def HdR (W wr:World) (B M:Nat) (ra:Option Addr) (xs:List HRw):Prop:=xs=[]∨∃g off,ra=some ⟨g,off,none⟩∧g<wr.heap.size∧((M≤g∧g<B)∨W.heap.size≤g)∧(∀i,wr.frozen? ⟨g,i,none⟩=false)∧(∀x ∈ xs,g<x.l∨x.h≤g)∧∀i x,xs[i]? = some x→CRw wr g (off+i*2) x.t x.A x.c
structure RpI (W wr:World) (B:Nat) (nx ck:Int) (tsl:Value) (M:Nat) (ra:Option Addr) (rc q:Nat) (xs:List HRw):Prop where
  writes:Writes M (B+1) W wr
  box:Box4 wr B (.int .i64 nx) (.int .i64 ck) tsl (.slice ra q rc)
  frz:∀i,wr.frozen? ⟨B,i,none⟩=false
  len:xs.length=q
  qc:q≤rc
  mb:M≤B
  bw:B<W.heap.size
  hd:HdR W wr B M ra xs
  ap:ApRw xs
  ct:∀x ∈ xs,CtRw wr M wr.heap.size x
  farB:∀x ∈ xs,x.h≤B∨W.heap.size≤x.l
theorem RpI.at_ {W wr:World} {B:Nat} {nx ck:Int} {tsl:Value} {M:Nat} {ra:Option Addr} {rc q:Nat} {xs:List HRw} (h:RpI W wr B nx ck tsl M ra rc q xs):HAtRw wr ra xs:=by
  rcases h.hd with h1 | ⟨g,off,e,hl,-,-,-,hc⟩
  · exact .inl h1
  · exact .inr ⟨g,off,e,hl,hc⟩
theorem RpI.rows {W wr:World} {B:Nat} {nx ck:Int} {tsl:Value} {M:Nat} {ra:Option Addr} {rc q:Nat} {xs:List HRw} (h:RpI W wr B nx ck tsl M ra rc q xs):RwsAt wr ra q (fun i=>(xs.map HRw.t).getD i zRw):=by
  rcases h.at_ with h1 | ⟨b,off,e,hl,hc⟩
  · left;rw [←h.len,h1];rfl
  · refine .inr ⟨b,off,e,hl,fun i hi=>?_⟩;obtain ⟨x,gi⟩:∃x,xs[i]? = some x:=⟨_,List.getElem?_eq_getElem (by rw [h.len];exact hi)⟩;have e2:(xs.map HRw.t).getD i zRw=x.t:=(by simp [List.getD_eq_getElem?_getD,gi]);have hx:=h.ct _ (List.mem_of_getElem? gi);show ∃ai ci,CRw wr b (off+i*2) ((xs.map HRw.t).getD i zRw) ai ci∧VersAt wr ai ((xs.map HRw.t).getD i zRw).n ((xs.map HRw.t).getD i zRw).U∧((xs.map HRw.t).getD i zRw).n≤ci;rw [e2];exact ⟨_,_,hc i _ gi,hx.2.2.at,hx.2.1⟩
theorem HdR.below {W wr u:World} {B M:Nat} {ra:Option Addr} {xs:List HRw} (h:HdR W wr B M ra xs) (hb:Below wr.heap.size wr u):HdR W u B M ra xs:=by
  rcases h with h1 | ⟨g,off,e,hl,k1,k2,k3,hc⟩
  · exact .inl h1
  · exact .inr ⟨g,off,e,Nat.lt_of_lt_of_le hl hb.size,k1,fun i=>(World.frozen?_of_block (w:=wr) (a:=⟨g,i,none⟩) (hb.block g hl)).trans (k2 i),k3,fun i x hx=>(hc i x hx).block (hb.block g hl)⟩
theorem RpI.below {u:World} {W wr:World} {B:Nat} {nx ck:Int} {tsl:Value} {M:Nat} {ra:Option Addr} {rc q:Nat} {xs:List HRw} (h:RpI W wr B nx ck tsl M ra rc q xs) (hb:Below wr.heap.size wr u):RpI W u B nx ck tsl M ra rc q xs:=by
  have hB:B<wr.heap.size:=Go.block_lt_of_cell h.box.1;have hz:=hb.size;exact ⟨h.writes.trans (Writes.of_below hb),h.box.below hb,fun i=>(World.frozen?_of_block (w:=wr) (a:=⟨B,i,none⟩) (hb.block B hB)).trans (h.frz i),h.len,h.qc,h.mb,h.bw,h.hd.below hb,h.ap,fun x hx=>((h.ct x hx).below hb).mono (Nat.le_refl _) hz,h.farB⟩
theorem Writes.mono9 {lo hi lo' hi':Nat} {w w':World} (h:Writes lo hi w w') (h1:lo'≤lo) (h2:hi≤hi'):Writes lo' hi' w w':=⟨h.os,h.tape,h.output,h.size,fun k hk hd=>h.block k hk (by omega)⟩
theorem ap_mid {l r:List HRw} {x0:HRw} (h:ApRw (l ++ x0 :: r)):(∀x ∈ l ++ r,x0.h≤x.l∨x.h≤x0.l)∧ApRw (l ++ r):=
  List.pairwise_cons.1 ((List.pairwise_middle (fun {x y} h=>h.symm)).1 h)
theorem ap_put {l r:List HRw} {y:HRw} (h:ApRw (l ++ r)) (hy:∀x ∈ l ++ r,y.h≤x.l∨x.h≤y.l):ApRw (l ++ y :: r):=
  (List.pairwise_middle (fun {x y} h=>h.symm)).2 (List.pairwise_cons.2 ⟨hy,h⟩)
theorem mem_mid {l r:List HRw} {x y:HRw} (h:x ∈ l ++ y :: r):x ∈ l ++ r∨x=y:=by
  simp only [List.mem_append,List.mem_cons] at h ⊢
  rcases h with h | h | h
  · exact .inl (.inl h)
  · exact .inr h
  · exact .inl (.inr h)
theorem mem_of_mid {l r:List HRw} {x:HRw} (y:HRw) (h:x ∈ l ++ r):x ∈ l ++ y :: r:=by
  simp only [List.mem_append,List.mem_cons] at h ⊢
  rcases h with h | h
  · exact .inl h
  · exact .inr (.inr h)
theorem get_mid {l r:List HRw} {x y x0:HRw} {i:Nat} (h:(l ++ y :: r)[i]? = some x):(i=l.length∧x=y)∨(i≠l.length∧(l ++ x0 :: r)[i]? = some x):=by
  rcases Nat.lt_trichotomy i l.length with c | c | c
  · right;rw [List.getElem?_append_left c] at h ⊢;exact ⟨by omega,h⟩
  · left;subst c;rw [List.getElem?_append_right (Nat.le_refl _),Nat.sub_self,List.getElem?_cons_zero,Option.some.injEq] at h;exact ⟨rfl,h.symm⟩
  · right;rw [List.getElem?_append_right (by omega)] at h ⊢;obtain ⟨k,hk⟩:∃k,i-l.length=k+1:=⟨i-l.length-1,by omega⟩;rw [hk,List.getElem?_cons_succ] at h ⊢;exact ⟨by omega,h⟩
theorem at_mid (l r:List HRw) (y:HRw):(l ++ y :: r)[l.length]? = some y:=by
  rw [List.getElem?_append_right (Nat.le_refl _),Nat.sub_self,List.getElem?_cons_zero]
theorem split_at {xs:List HRw} {p:Nat} {x0:HRw} (h:xs[p]? = some x0):xs=xs.take p ++ x0 :: xs.drop (p+1)∧(xs.take p).length=p:=by
  obtain ⟨hlt,e0⟩:=List.getElem?_eq_some_iff.1 h;exact ⟨by rw [←e0,←List.drop_eq_getElem_cons hlt,List.take_append_drop],by simp;omega⟩
theorem len_mid (l r:List HRw) (x y:HRw):(l ++ y :: r).length=(l ++ x :: r).length:=by simp
theorem RpI.setV {W wr:World} {B:Nat} {nx ck:Int} {tsl:Value} {M:Nat} {ra:Option Addr} {rc q:Nat} {l r:List HRw} {x0:HRw} (h:RpI W wr B nx ck tsl M ra rc q (l ++ x0 :: r)) (hn:0<x0.t.n) (v:Vr) :
    ∃b off,x0.A=some ⟨b,off,none⟩∧b<wr.heap.size∧C4 wr b off (x0.t.U 0)∧(∀i,wr.frozen? ⟨b,i,none⟩=false)∧RpI W (set4 wr b off v) B nx ck tsl M ra rc q (l ++ ⟨⟨x0.t.key,x0.t.n,fun i=>if i=0 then v else x0.t.U i⟩,x0.A,x0.c,x0.l,x0.h⟩ :: r):=by
  have hmem:x0 ∈ l ++ x0 :: r:=List.mem_of_getElem? (at_mid l r x0);have hB:B<wr.heap.size:=Go.block_lt_of_cell h.box.1;obtain ⟨k1,k2,k3⟩:=h.ct x0 hmem;have hf0:=h.farB x0 hmem;have hk3:=k3;obtain ⟨j0,j1 | ⟨b,off,eA,j2,j3,j4⟩⟩:=k3
  · omega
  have hw:Writes b (b+1) wr (set4 wr b off v):=set4_writes (Writes.refl _ _ _) (Nat.le_refl _) (Nat.lt_succ_self _);have hz:(set4 wr b off v).heap.size=wr.heap.size:=set4_size;have hws:=h.writes.size;have hbw:=h.bw;obtain ⟨hap,hap2⟩:=ap_mid h.ap;refine ⟨b,off,eA,by omega,by have:=j4.1 0 hn;simpa using this,j4.2,?_,?_,fun i=>?_,by rw [len_mid l r x0];exact h.len,h.qc,h.mb,h.bw,?_,?_,?_,?_⟩
  · exact ⟨hw.os.trans h.writes.os,hw.tape.trans h.writes.tape,hw.output.trans h.writes.output,Nat.le_trans hws hw.size,fun k hk hd=>(hw.block k (by omega) (by omega)).trans (h.writes.block k hk hd)⟩
  · exact h.box.writes hw (by omega)
  · rw [World.frozen?_of_block (w:=wr) (a:=⟨B,i,none⟩) (hw.block B hB (by omega))];exact h.frz i
  · rcases h.hd with h1 | ⟨g,o2,e,hl,g1,g2,g3,hc⟩
    · simp at h1
    · have hgx:=g3 x0 hmem;have eb:(set4 wr b off v).heap[g]? = wr.heap[g]?:=hw.block g hl (by omega);refine .inr ⟨g,o2,e,by omega,g1,fun i=>(World.frozen?_of_block (w:=wr) (a:=⟨g,i,none⟩) eb).trans (g2 i),fun x hx=>?_,fun i x hx=>?_⟩
      · rcases mem_mid hx with hx | rfl
        · exact g3 x (mem_of_mid _ hx)
        · exact hgx
      · rcases get_mid (x0:=x0) hx with ⟨rfl,rfl⟩ | ⟨_,hx⟩
        · exact (hc _ x0 (at_mid l r x0)).block eb
        · exact (hc i x hx).block eb
  · exact ap_put hap2 hap
  · intro x hx
    rcases mem_mid hx with hx2 | rfl
    · obtain ⟨m1,m2,m3⟩:=h.ct x (mem_of_mid _ hx2);have:=hap x hx2;exact ⟨by rw [hz];exact m1,m2,m3.writes hw (by omega)⟩
    · refine ⟨by rw [hz];exact k1,k2,by rw [hz];exact j0,.inr ⟨b,off,eA,j2,j3,?_⟩⟩;have:=row4_set (r:=v) hn j4;rw [Nat.zero_mul,Nat.add_zero] at this;exact this
  · intro x hx
    rcases mem_mid hx with hx | rfl
    · exact h.farB x (mem_of_mid _ hx)
    · exact hf0
theorem RpI.setH {W wr u:World} {B:Nat} {nx ck:Int} {tsl:Value} {M:Nat} {ra:Option Addr} {rc q:Nat} {l r:List HRw} {x0:HRw} (h:RpI W wr B nx ck tsl M ra rc q (l ++ x0 :: r)) (hb:Below wr.heap.size wr u) (A:Option Addr) (c lo hi n:Nat) (U:Nat→Vr) (hlo:wr.heap.size≤lo) (hhi:hi≤u.heap.size) (hn:n≤c) (ho:Own4 u lo hi A n U) :
    ∃g off,ra=some ⟨g,off,none⟩∧g<wr.heap.size∧CRw wr g (off+l.length*2) x0.t x0.A x0.c∧(∀i,wr.frozen? ⟨g,i,none⟩=false)∧RpI W (u.setCell ⟨g,off+l.length*2+1,none⟩ (.slice A n c)) B nx ck tsl M ra rc q (l ++ ⟨⟨x0.t.key,n,U⟩,A,c,lo,hi⟩ :: r):=by
  have hmem:x0 ∈ l ++ x0 :: r:=List.mem_of_getElem? (at_mid l r x0);have hB:B<wr.heap.size:=Go.block_lt_of_cell h.box.1;have hws:=h.writes.size;have hbw:=h.bw;have hsz:=hb.size;have h2:=h.below hb;obtain ⟨hap,hap2⟩:=ap_mid h.ap
  rcases h.hd with h1 | ⟨g,off,e,hl,g1,g2,g3,hc⟩
  · simp at h1
  have hgB:g≠B:=(by omega);have hw:Writes g (g+1) u (u.setCell ⟨g,off+l.length*2+1,none⟩ (.slice A n c)):=Writes.setCell (Writes.refl _ _ _) (p:=⟨g,_,none⟩) (Nat.le_refl _) (Nat.lt_succ_self _) _;have hz:(u.setCell ⟨g,off+l.length*2+1,none⟩ (.slice A n c)).heap.size=u.heap.size:=(by simp [World.setCell]);refine ⟨g,off,e,hl,hc _ x0 (at_mid l r x0),g2,?_,?_,fun i=>?_,by rw [len_mid l r x0];exact h.len,h.qc,h.mb,h.bw,?_,?_,?_,?_⟩
  · exact ⟨hw.os.trans h2.writes.os,hw.tape.trans h2.writes.tape,hw.output.trans h2.writes.output,Nat.le_trans h2.writes.size hw.size,fun k hk hd=>(hw.block k (by omega) (by omega)).trans (h2.writes.block k hk hd)⟩
  · exact h2.box.writes hw (by omega)
  · rw [World.frozen?_setCell];exact h2.frz i
  · refine .inr ⟨g,off,e,by omega,g1,fun i=>by rw [World.frozen?_setCell,World.frozen?_of_block (w:=wr) (a:=⟨g,i,none⟩) (hb.block g hl)];exact g2 i,fun x hx=>?_,fun i x hx=>?_⟩
    · rcases mem_mid hx with hx | rfl
      · exact g3 x (mem_of_mid _ hx)
      · left;show g<lo;omega
    · rcases get_mid (x0:=x0) hx with ⟨rfl,rfl⟩ | ⟨hne,hx⟩
      · obtain ⟨q0,q1⟩:=(hc _ x0 (at_mid l r x0)).block (hb.block g hl);exact ⟨(setO (by omega)).trans q0,World.cell?_setCell_same _ _ _ q1⟩
      · obtain ⟨q0,q1⟩:=(hc i x hx).block (hb.block g hl);exact ⟨(setO (by omega)).trans q0,(setO (by omega)).trans q1⟩
  · refine ap_put hap2 fun x hx=>?_;have:=(h.ct x (mem_of_mid _ hx)).1;show hi≤x.l∨x.h≤lo;omega
  · intro x hx
    rcases mem_mid hx with hx2 | rfl
    · obtain ⟨m1,m2,m3⟩:=h2.ct x (mem_of_mid _ hx2);have:=g3 x (mem_of_mid _ hx2);exact ⟨by rw [hz];exact m1,m2,m3.writes hw (by omega)⟩
    · refine ⟨.inr ⟨?_,by rw [hz];exact hhi⟩,hn,ho.writes hw (by show hi≤g∨g+1≤lo;omega)⟩;have:=h.mb;show M≤lo;omega
  · intro x hx
    rcases mem_mid hx with hx | rfl
    · exact h.farB x (mem_of_mid _ hx)
    · right;show W.heap.size≤lo;omega
theorem RpI.del {W wr u:World} {B:Nat} {nx ck:Int} {tsl:Value} {M:Nat} {ra ra2:Option Addr} {rc q rc2 q2:Nat} {l r:List HRw} {x0:HRw} (h:RpI W wr B nx ck tsl M ra rc q (l ++ x0 :: r)) (hb:Below wr.heap.size wr u) (hq:(l ++ r).length=q2) (ho:u.ownsRow wr.heap.size 173 2 (.slice ra2 q2 rc2) q2 (hbRw (l ++ r))) :
    RpI W (u.setCell ⟨B,3,none⟩ (.slice ra2 q2 rc2)) B nx ck tsl M ra2 rc2 q2 (l ++ r):=by
  have hB:B<wr.heap.size:=Go.block_lt_of_cell h.box.1;have hws:=h.writes.size;have hbw:=h.bw;have hmb:=h.mb;have hsz:=hb.size;have h2:=h.below hb;have hw:Writes B (B+1) u (u.setCell ⟨B,3,none⟩ (.slice ra2 q2 rc2)):=Writes.setCell (Writes.refl _ _ _) (p:=⟨B,3,none⟩) (Nat.le_refl _) (Nat.lt_succ_self _) _;have hz:(u.setCell ⟨B,3,none⟩ (.slice ra2 q2 rc2)).heap.size=u.heap.size:=(by simp [World.setCell]);obtain ⟨b0,b1,b2,b3⟩:=h2.box;obtain ⟨a9,c9,e9,hqc,hat⟩:=HAtRw.of_row hq ho;injection e9 with ea _ ec;subst ea ec;refine ⟨h2.writes.trans (hw.mono9 (by omega) (Nat.le_refl _)),⟨(setO (by omega)).trans b0,(setO (by omega)).trans b1,(setO (by omega)).trans b2,World.cell?_setCell_same _ _ _ b3⟩,fun i=>by rw [World.frozen?_setCell];exact h2.frz i,hq,hqc,h.mb,h.bw,?_,(ap_mid h.ap).2,?_,?_⟩
  · rcases hat with h1 | ⟨g,off,e,hl,hc⟩
    · exact .inl h1
    · subst e
      obtain rfl:off=0:=by
        rcases ho.2 with ⟨e9,_⟩ | ⟨g2,c2,cu,e9,_⟩
        · cases e9
        · injection e9 with e9;injection e9 with e9;injection e9
      have hg:=ho.lt g rfl;have hgB:g≠B:=(by omega);have e2:(u.setCell ⟨B,3,none⟩ (.slice (some ⟨g,0,none⟩) q2 rc2)).heap[g]? = u.heap[g]?:=hw.block g hl (by omega);refine .inr ⟨g,0,rfl,by omega,.inr (by omega),fun i=>?_,fun x hx=>?_,fun i x hx=>(hc i x hx).block e2⟩
      · rw [World.frozen?_setCell];exact ho.frozenAt _
      · have:=(h.ct x (mem_of_mid _ hx)).1;omega
  · intro x hx;obtain ⟨m1,m2,m3⟩:=h2.ct x (mem_of_mid _ hx);have hf:=h.farB x (mem_of_mid _ hx);have:=(h.ct x (mem_of_mid _ hx)).1;exact ⟨by rw [hz];exact m1,m2,m3.writes hw (by omega)⟩
  · intro x hx;exact h.farB x (mem_of_mid _ hx)
end Go.Proofs.YtjdodbiphijjgaaGreat
