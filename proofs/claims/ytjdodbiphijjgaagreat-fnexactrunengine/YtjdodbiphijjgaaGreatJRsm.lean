import Derived.Test.YtjdodbiphijjgaaGreatJRsl
import Derived.Test.YtjdodbiphijjgaaGreatJFf
import Derived.Test.YtjdodbiphijjgaaGreatJVn
import Derived.Test.YtjdodbiphijjgaaGreatJNb
import Derived.Test.YtjdodbiphijjgaaGreatJRqr
import Derived.Test.YtjdodbiphijjgaaGreatJRsi
import Derived.Test.YtjdodbiphijjgaaGreatJRle
import Derived.Test.YtjdodbiphijjgaaGreatJNa
import Derived.Test.YtjdodbiphijjgaaGreatJBga
import Derived.Test.YtjdodbiphijjgaaGreatJRsh
namespace Go.Proofs.YtjdodbiphijjgaaGreat
open Go.RowKit Go.Deep Go.Shelf
set_option linter.unusedVariables false
set_option linter.unusedSimpArgs false
set_option maxRecDepth 20000
open Go.RowKit Go.Deep
theorem ck_cases (E:En) (key:Int):(fR E.q E.R key=-1∧ckN E key=0)∨∃j,j<E.q∧fR E.q E.R key=(j:Int)∧ckN E key=(E.R j).n∧ckU E key=(E.R j).U:=by
  rcases fR_cases E.q E.R key with h | ⟨i,hi,h⟩
  · exact .inl ⟨h,by unfold ckN;rw [h];rfl⟩
  · refine .inr ⟨i,hi,h,?_,?_⟩
    · unfold ckN;rw [h,if_pos (by omega),Int.toNat_natCast]
    · unfold ckU;rw [h,if_pos (by omega),Int.toNat_natCast]
theorem ck_av {E:En} (h0:eF E=0) {j:Nat} (hj:j<E.p) (key:Int):avC (ckN E key) (ckU E key) (E.T j).am (E.T j).id=0:=by
  have hv:=view_ok h0 hj
  have hc:chF (ckN E key) (ckU E key)=0:=by
    rcases ck_cases E key with ⟨-,h⟩ | ⟨i,hi,-,h1,h2⟩
    · rw [h];rfl
    · rw [h1,h2];exact (rF_good ((eF_good h0).2.2.2 i hi)).2.2.1
  unfold avC;rw [if_pos hc,if_pos hv]
theorem fop_fob {n:Nat} {U:Nat→Vr} {x id:Int} (hm:mayB n U x id=true):fop n U=fob n U id:=by
  unfold fop fob
  by_cases h:0<n
  · have hn:¬n=0:=by omega
    unfold mayB at hm;simp only [hn,decide_false,Bool.false_or] at hm
    by_cases ha:(U 0).a=0
    · rw [if_pos ha] at hm;rw [hm,Bool.true_and]
    · have hb:((U 0).a == 0)=false:=by simpa using ha
      rw [hb,Bool.and_false,Bool.and_false,Bool.and_false]
  · rw [show decide (0<n)=false from decide_eq_false h,Bool.false_and,Bool.false_and]
theorem cw_ww {E:En} (h0:eF E=0) {j:Nat} (hj:j<E.p) {key v:Int} {g:Bool} (hv:inB v 0 9999=true) (hg:g=true→v=0) :
    cwC E j key v g=(if g=true∧rdB E.q E.R (E.T j).am (E.T j).id key=false then 4 else wwC E j key)∧(cwC E j key v g=0→wrE E j key v g=wwE E j key g v):=by
  have hav:=ck_av h0 hj key;have hse:=(seen_rd h0 hj (ck_cases E key)).1;have hid:(E.T j).id≠0:=(by have:=id_pos ((eF_good h0).2.2.1 j hj);omega)
  have hmw:mwC (ckN E key) (ckU E key) (E.T j).am (E.T j).id=if mayB (ckN E key) (ckU E key) (E.T j).am (E.T j).id=true then 0 else 9:=(by unfold mwC;rw [if_pos hav,if_neg hid])
  have hgv:(g && v != 0)=false:=by
    cases g with
    | false=>rfl
    | true=>rw [hg rfl];rfl
  have hpv:mayB (ckN E key) (ckU E key) (E.T j).am (E.T j).id=true→pvC (ckN E key) (ckU E key) (E.T j).am (E.T j).id g v=if fob (ckN E key) (ckU E key) (E.T j).id=true then 0 else (if ckN E key=12 then 2 else 0):=fun hm=>by
    unfold pvC;rw [if_pos hav,if_pos hv,hgv,if_neg (by decide),hmw,if_pos hm,if_pos rfl,fop_fob hm]
  have e1:cwC E j key v g=(if g=true∧rdB E.q E.R (E.T j).am (E.T j).id key=false then 4 else wwC E j key):=by
    unfold cwC wwC;rw [hse,hmw]
    by_cases hm:mayB (ckN E key) (ckU E key) (E.T j).am (E.T j).id=true
    · rw [if_pos hm,hpv hm,if_neg (show ¬(0:Int)≠0 by decide),if_pos hm]
      cases hr:rdB E.q E.R (E.T j).am (E.T j).id key <;> cases g <;> simp
    · have hm2:mayB (ckN E key) (ckU E key) (E.T j).am (E.T j).id=false:=by simpa using hm
      rw [hm2]
      cases hr:rdB E.q E.R (E.T j).am (E.T j).id key <;> cases g <;> simp
  refine ⟨e1,fun hc=>?_⟩
  have hw:wwC E j key=0:=by
    rw [e1] at hc;split at hc
    · cases hc
    · exact hc
  have hm:mayB (ckN E key) (ckU E key) (E.T j).am (E.T j).id=true:=by
    unfold wwC at hw;split at hw
    · rename_i h;exact h
    · cases hw
  have hp0:pvC (ckN E key) (ckU E key) (E.T j).am (E.T j).id g v=0:=by
    rw [hpv hm];unfold wwC at hw;rw [if_pos hm] at hw;split at hw
    · cases hw
    · exact hw
  have hN:pvN (ckN E key) (ckU E key) (E.T j).am (E.T j).id g v=wwN E j key:=(by unfold pvN wwN;rw [if_pos hp0,fop_fob hm]);have hS:pvS (ckN E key) (ckU E key) (E.T j).id g v=wwS E j key g v:=(by unfold pvS wwS;rw [fop_fob hm]);unfold wwE wrE wrG;rw [if_pos hw,hN,hS]
theorem smf_fewW (f:Nat→Nat) (c:Nat):∀n,(∀i,i<n→f i≤c)→smf f n≤n*c
  | 0,_=>Nat.zero_le _
  | n+1,h=>by
    have h1:=smf_fewW f c n fun i hi=>h i (by omega);have h2:=h n (by omega);have e:smf f (n+1)=smf f n+f n:=rfl;rw [e,Nat.succ_mul];omega
theorem small_fewW {E:En} (h1:E.p≤20) (h2:E.q≤33) (h3:∀i,i<E.p→(E.T i).n≤60) (h4:∀i,i<E.q→(E.R i).n≤13):SmallE E:=by
  have g1:=smf_fewW (fun i=>(E.T i).n) 60 E.p h3;have g2:=smf_fewW (fun i=>(E.R i).n) 13 E.q h4;have g3:E.p*60≤20*60:=Nat.mul_le_mul_right _ h1;have g4:E.q*13≤33*13:=Nat.mul_le_mul_right _ h2;exact ⟨by omega,by omega,fun i hi=>by have:=h3 i hi;omega,fun i hi=>by have:=h4 i hi;omega,by unfold smTx;omega,by unfold smRw;omega⟩
theorem l6Write_any (E:En) (a:Option Addr) (cap:Nat) (a':Option Addr) (cap':Nat) (j:Nat) (key v:Int) (g:Bool) (w:World) (h0:eF E=0) (hj:j<E.p) (h:EngAt w a a' E) :
    Calls Tryz.prog 63 #[.agg #[.int .i64 E.nx,.int .i64 E.ck,.slice a E.p cap,.slice a' E.q cap'],.int .i64 j,.int .i64 key,.bool g,.int .i64 v] w (ERes2 (wwC E j key) 0 (wwE E j key g v) w):=by
  have hid:(E.T j).id≠0:=(by have:=id_pos ((eF_good h0).2.2.1 j hj);omega);cases hF:plF E.q E.R key (plN E.R key E.q) with
  | false=>exact l6Write_new E a cap a' cap' j key v g w h0 hj hid hF h
  | true=>exact l6Write_old E a cap a' cap' j key v g w h0 hj hid hF h
set_option maxHeartbeats 16000000 in
theorem specPk_any (E:En) (a:Option Addr) (cap:Nat) (a':Option Addr) (cap':Nat) (id key v:Int) (w:World) (hs:SmallE E) (h:EngAt w a a' E) :
    Calls Tryz.prog 10 #[.agg #[.int .i64 E.nx,.int .i64 E.ck,.slice a E.p cap,.slice a' E.q cap'],.int .i64 id,.int .i64 key,.int .i64 v] w (ERes2 (wcC E id key v false) 0 (wcE E id key v false) w):=by
  have HXA:Hid (EngAt w a a' E):=h;have HS:Hid (SmallE E):=hs;clear h hs
  have HBX:Hid (∀o1 o2:Obj,o1=.cells #[.int .i64 E.nx,.int .i64 E.ck,.slice a E.p cap,.slice a' E.q cap'] 30→o2=.cells #[.int .i64 0,.int .i64 0,.int .i64 0,.int .i64 0,.slice none 0 0,.slice none 0 0] 32→
      Box4 ((w.alloc o1).alloc o2) w.heap.size (.int .i64 E.nx) (.int .i64 E.ck) (.slice a E.p cap) (.slice a' E.q cap')∧Box6 ((w.alloc o1).alloc o2) (w.heap.size+1) (.int .i64 0) (.int .i64 0) (.int .i64 0) (.int .i64 0) (.slice none 0 0) (.slice none 0 0)∧(∀i,((w.alloc o1).alloc o2).frozen? ⟨w.heap.size+1,i,none⟩=false)∧Below w.heap.size w ((w.alloc o1).alloc o2)∧((w.alloc o1).alloc o2).heap.size=w.heap.size+2):=by
    rintro o1 o2 rfl rfl;exact ⟨(Box4.new w _ _ _ _ _).alloc _,by simp [Box6,go_sem],fun i=>by simp [go_sem],((Below.refl _ _).alloc (Nat.le_refl _) _).alloc (by simp) _,by simp⟩
  go_enter Tryz.func10,Tryz.ntmps10;go_wp2_with fail;obtain ⟨hb4,hb2,hbf,hbw,hbs⟩:=HBX.out _ _ rfl rfl;refine (l6Asked_any E w.heap.size a cap a' cap' id _ HS.out ⟨hb4,HXA.out.below hbw⟩).mono ?_;rintro e W ⟨rfl,hb1⟩;have HB4:Hid (Box4 W w.heap.size (.int .i64 E.nx) (.int .i64 E.ck) (.slice a E.p cap) (.slice a' E.q cap')):=hb4.below hb1;have HR6:Hid (Box6 W (w.heap.size+1) (.int .i64 0) (.int .i64 0) (.int .i64 0) (.int .i64 0) (.slice none 0 0) (.slice none 0 0)):=hb2.below hb1;have HRF:Hid (∀i,W.frozen? ⟨w.heap.size+1,i,none⟩=false):=fun i=>((bcell2 hb1).2 _ _ (by rw [hbs];omega)).trans (hbf i);have HBW:Hid (Below w.heap.size w W):=below_then hbw hb1;have hs1:w.heap.size+2≤W.heap.size:=(by have:=hb1.size;rw [hbs] at this;exact this);clear hb1 hb4 hb2 hbf hbw hbs HBX
  by_cases hc:askC E id=0
  case neg=>
    have HF:Hid (∀w7,Below w.heap.size w w7→ERes2 (wcC E id key v false) 0 (wcE E id key v false) w (.returned (.agg #[.int .i64 (askC E id),.int .i64 0,.int .i64 0,.int .i64 0,.slice none 0 0,.slice none 0 0])) w7):=fun w7 hb=>by
      have hC:wcC E id key v false=askC E id:=if_neg hc;rw [wc_bad hC hc,hC];exact eres_bad2 hb
    have hc2:(askC E id != 0)=true:=(by simp [hc]);clear hc;generalize askC E id=uu at *;generalize askP E id=up at *;go_wp2_with fail;refine (l6Bad_any uu _).mono ?_;rintro e w9 ⟨rfl,hb9⟩;have HB9:Hid (Below w.heap.size w w9):=below_then HBW.out hb9;obtain ⟨r0,r1,r2,r3,r4,r5⟩:=(HR6.out.below (Below.refl _ _)).below hb9;have rf:∀i,w9.frozen? ⟨w.heap.size+1,i,none⟩=false:=fun i=>((bcell2 hb9).2 _ _ (HR6.out.below (Below.refl _ _)).lt).trans (((bcell2 (Below.refl _ _)).2 _ _ HR6.out.lt).trans (HRF.out i));clear hb9;go_wp2_with fail;refine bodyPost_ret (v:=.agg #[.int .i64 uu,.int .i64 0,.int .i64 0,.int .i64 0,.slice none 0 0,.slice none 0 0]) (by simp [results,Tryz.results10,go_sem, *]) rfl ?_;refine HF.out _ ?_
    repeat (first | with_reducible exact HB9.out | with_reducible refine Below.setCell ?_ (by first | omega | (simp <;> omega)) _)
  obtain ⟨h0,j,hj,hp,hid⟩:=ask_open hc;have HEX:Hid (EngAt W a a' E):=HXA.out.below HBW.out;have HH0:Hid (eF E=0):=h0;have HHC:Hid (askC E id=0):=hc;have HHP:Hid ((askP E id).toNat=j):=(by rw [Hid,hp,Int.toNat_natCast]);have hq32:=(eF_pq h0).2;have HR12:Hid (∀i,i<E.q→(E.R i).n≤12):=rows12 h0;have hj1:(j:Int)<(E.p:Int):=(by omega);have hj0:(0:Int)≤(j:Int):=(by omega);obtain ⟨b0,b1,b2,b3⟩:=HB4.out;rw [hc,hp];clear hc hp h0 hid;go_wp2_with fail;refine (l1Key_any key _).mono ?_;rintro e W2 ⟨rfl,hw2⟩;obtain rfl:=hw2.symm
  rcases (bool_orW (inB key 0 31)).symm with hk | hk
  · rw [hk]
    have HF:Hid (∀w7,Below w.heap.size w w7→ERes2 (wcC E id key v false) 0 (wcE E id key v false) w (.returned (.agg #[.int .i64 3,.int .i64 0,.int .i64 0,.int .i64 0,.slice none 0 0,.slice none 0 0])) w7):=fun w7 hb=>by
      have hC:wcC E id key v false=3:=(by unfold wcC;rw [if_pos HHC.out,hk,if_neg (by decide)]);rw [wc_bad hC (by first | decide | assumption),hC];exact eres_bad2 hb
    clear hk;go_wp2_with fail;refine (l6Bad_any 3 _).mono ?_;rintro e w9 ⟨rfl,hb9⟩;have HB9:Hid (Below w.heap.size w w9):=below_then HBW.out hb9;obtain ⟨r0,r1,r2,r3,r4,r5⟩:=(HR6.out.below (Below.refl _ _)).below hb9;have rf:∀i,w9.frozen? ⟨w.heap.size+1,i,none⟩=false:=fun i=>((bcell2 hb9).2 _ _ (HR6.out.below (Below.refl _ _)).lt).trans (((bcell2 (Below.refl _ _)).2 _ _ HR6.out.lt).trans (HRF.out i));clear hb9;go_wp2_with fail;refine bodyPost_ret (v:=.agg #[.int .i64 3,.int .i64 0,.int .i64 0,.int .i64 0,.slice none 0 0,.slice none 0 0]) (by simp [results,Tryz.results10,go_sem, *]) rfl ?_;refine HF.out _ ?_
    repeat (first | with_reducible exact HB9.out | with_reducible refine Below.setCell ?_ (by first | omega | (simp <;> omega)) _)
  have HKY:Hid (inB key 0 31=true):=hk;rw [hk];clear hk;go_wp2_with fail;refine (l1Value_any v _).mono ?_;rintro e W2 ⟨rfl,hw2⟩;obtain rfl:=hw2.symm
  rcases (bool_orW (inB v 0 9999)).symm with hk | hk
  · rw [hk]
    have HF:Hid (∀w7,Below w.heap.size w w7→ERes2 (wcC E id key v false) 0 (wcE E id key v false) w (.returned (.agg #[.int .i64 3,.int .i64 0,.int .i64 0,.int .i64 0,.slice none 0 0,.slice none 0 0])) w7):=fun w7 hb=>by
      have hC:wcC E id key v false=3:=(by unfold wcC;rw [if_pos HHC.out,HKY.out,if_pos rfl,hk,if_neg (by decide)]);rw [wc_bad hC (by first | decide | assumption),hC];exact eres_bad2 hb
    clear hk;go_wp2_with fail;refine (l6Bad_any 3 _).mono ?_;rintro e w9 ⟨rfl,hb9⟩;have HB9:Hid (Below w.heap.size w w9):=below_then HBW.out hb9;obtain ⟨r0,r1,r2,r3,r4,r5⟩:=(HR6.out.below (Below.refl _ _)).below hb9;have rf:∀i,w9.frozen? ⟨w.heap.size+1,i,none⟩=false:=fun i=>((bcell2 hb9).2 _ _ (HR6.out.below (Below.refl _ _)).lt).trans (((bcell2 (Below.refl _ _)).2 _ _ HR6.out.lt).trans (HRF.out i));clear hb9;go_wp2_with fail;refine bodyPost_ret (v:=.agg #[.int .i64 3,.int .i64 0,.int .i64 0,.int .i64 0,.slice none 0 0,.slice none 0 0]) (by simp [results,Tryz.results10,go_sem, *]) rfl ?_;refine HF.out _ ?_
    repeat (first | with_reducible exact HB9.out | with_reducible refine Below.setCell ?_ (by first | omega | (simp <;> omega)) _)
  have HCW:=cw_ww (key:=key) (v:=v) (g:=false) HH0.out hj hk (fun h=>by cases h)
  have HEQ:Hid (wcC E id key v false=wwC E j key∧wcE E id key v false=wwE E j key false v):=by
    have e1:wcC E id key v false=cwC E j key v false:=(by unfold wcC;rw [if_pos HHC.out,HKY.out,if_pos rfl,hk,if_pos rfl,HHP.out]);have e2:cwC E j key v false=wwC E j key:=(by rw [HCW.1,if_neg (by simp)]);refine ⟨e1.trans e2,?_⟩;unfold wcE;rw [e1,HHP.out]
    by_cases hz:cwC E j key v false=0
    · rw [if_pos hz,HCW.2 hz]
    · rw [if_neg hz];unfold wwE;rw [if_neg (by rw [←e2];exact hz)]
  rw [hk];clear hk HCW;go_wp2_with fail;refine (l6Write_any E a cap a' cap' j key v false _ HH0.out hj HEX.out).mono ?_;rintro e w8 ⟨a2,c2,a3,c3,rfl,hb8,hown⟩;have hs6:w.heap.size+2≤W.heap.size:=(by exact hs1)
  have HF:Hid (∀w7,Writes (w.heap.size+1) (w.heap.size+2) w8 w7→w7.heap.size=w8.heap.size→ERes2 (wcC E id key v false) 0 (wcE E id key v false) w (.returned (.agg #[.int .i64 (wwC E j key),.int .i64 0,.int .i64 (wwE E j key false v).nx,.int .i64 (wwE E j key false v).ck,.slice a2 (wwE E j key false v).p c2,.slice a3 (wwE E j key false v).q c3])) w7):=fun w7 hw hz=>by
    rw [HEQ.out.1,HEQ.out.2];refine ⟨a2,c2,a3,c3,rfl,Writes.below (below_then HBW.out hb8) hw (by omega),?_⟩;exact eres_wide (hown.writes hw (.inr (by omega))) (by omega) (by have:=hw.size;omega) (Nat.le_refl _)
  obtain ⟨r0,r1,r2,r3,r4,r5⟩:=HR6.out.below hb8;have rf:∀i,w8.frozen? ⟨w.heap.size+1,i,none⟩=false:=fun i=>((bcell2 hb8).2 _ _ HR6.out.lt).trans (HRF.out i);clear hb8 hown b0 b1 b2 b3;generalize wwE E j key false v=GE at *;generalize wwC E j key=c at *;go_wp2_with fail;refine bodyPost_ret (v:=.agg #[.int .i64 c,.int .i64 0,.int .i64 GE.nx,.int .i64 GE.ck,.slice a2 GE.p c2,.slice a3 GE.q c3]) (by simp [results,Tryz.results10,go_sem, *]) rfl ?_;refine HF.out _ ?_ (by simp [World.setCell])
  repeat (first | with_reducible exact Writes.refl _ _ _ | with_reducible refine Writes.setCell ?_ (by first | omega | (simp <;> omega)) (by first | omega | (simp <;> omega)) _)
set_option maxHeartbeats 16000000 in
theorem specDk_any (E:En) (a:Option Addr) (cap:Nat) (a':Option Addr) (cap':Nat) (id key:Int) (w:World) (hs:SmallE E) (h:EngAt w a a' E) :
    Calls Tryz.prog 18 #[.agg #[.int .i64 E.nx,.int .i64 E.ck,.slice a E.p cap,.slice a' E.q cap'],.int .i64 id,.int .i64 key] w (ERes2 (wcC E id key 0 true) 0 (wcE E id key 0 true) w):=by
  have HXA:Hid (EngAt w a a' E):=h;have HS:Hid (SmallE E):=hs;clear h hs
  have HBX:Hid (∀o1 o2:Obj,o1=.cells #[.int .i64 E.nx,.int .i64 E.ck,.slice a E.p cap,.slice a' E.q cap'] 30→o2=.cells #[.int .i64 0,.int .i64 0,.int .i64 0,.int .i64 0,.slice none 0 0,.slice none 0 0] 32→
      Box4 ((w.alloc o1).alloc o2) w.heap.size (.int .i64 E.nx) (.int .i64 E.ck) (.slice a E.p cap) (.slice a' E.q cap')∧Box6 ((w.alloc o1).alloc o2) (w.heap.size+1) (.int .i64 0) (.int .i64 0) (.int .i64 0) (.int .i64 0) (.slice none 0 0) (.slice none 0 0)∧(∀i,((w.alloc o1).alloc o2).frozen? ⟨w.heap.size+1,i,none⟩=false)∧Below w.heap.size w ((w.alloc o1).alloc o2)∧((w.alloc o1).alloc o2).heap.size=w.heap.size+2):=by
    rintro o1 o2 rfl rfl;exact ⟨(Box4.new w _ _ _ _ _).alloc _,by simp [Box6,go_sem],fun i=>by simp [go_sem],((Below.refl _ _).alloc (Nat.le_refl _) _).alloc (by simp) _,by simp⟩
  go_enter Tryz.func18,Tryz.ntmps18;go_wp2_with fail;obtain ⟨hb4,hb2,hbf,hbw,hbs⟩:=HBX.out _ _ rfl rfl;refine (l6Asked_any E w.heap.size a cap a' cap' id _ HS.out ⟨hb4,HXA.out.below hbw⟩).mono ?_;rintro e W ⟨rfl,hb1⟩;have HB4:Hid (Box4 W w.heap.size (.int .i64 E.nx) (.int .i64 E.ck) (.slice a E.p cap) (.slice a' E.q cap')):=hb4.below hb1;have HR6:Hid (Box6 W (w.heap.size+1) (.int .i64 0) (.int .i64 0) (.int .i64 0) (.int .i64 0) (.slice none 0 0) (.slice none 0 0)):=hb2.below hb1;have HRF:Hid (∀i,W.frozen? ⟨w.heap.size+1,i,none⟩=false):=fun i=>((bcell2 hb1).2 _ _ (by rw [hbs];omega)).trans (hbf i);have HBW:Hid (Below w.heap.size w W):=below_then hbw hb1;have hs1:w.heap.size+2≤W.heap.size:=(by have:=hb1.size;rw [hbs] at this;exact this);clear hb1 hb4 hb2 hbf hbw hbs HBX
  by_cases hc:askC E id=0
  case neg=>
    have HF:Hid (∀w7,Below w.heap.size w w7→ERes2 (wcC E id key 0 true) 0 (wcE E id key 0 true) w (.returned (.agg #[.int .i64 (askC E id),.int .i64 0,.int .i64 0,.int .i64 0,.slice none 0 0,.slice none 0 0])) w7):=fun w7 hb=>by
      have hC:wcC E id key 0 true=askC E id:=if_neg hc;rw [wc_bad hC hc,hC];exact eres_bad2 hb
    have hc2:(askC E id != 0)=true:=(by simp [hc]);clear hc;generalize askC E id=uu at *;generalize askP E id=up at *;go_wp2_with fail;refine (l6Bad_any uu _).mono ?_;rintro e w9 ⟨rfl,hb9⟩;have HB9:Hid (Below w.heap.size w w9):=below_then HBW.out hb9;obtain ⟨r0,r1,r2,r3,r4,r5⟩:=(HR6.out.below (Below.refl _ _)).below hb9;have rf:∀i,w9.frozen? ⟨w.heap.size+1,i,none⟩=false:=fun i=>((bcell2 hb9).2 _ _ (HR6.out.below (Below.refl _ _)).lt).trans (((bcell2 (Below.refl _ _)).2 _ _ HR6.out.lt).trans (HRF.out i));clear hb9;go_wp2_with fail;refine bodyPost_ret (v:=.agg #[.int .i64 uu,.int .i64 0,.int .i64 0,.int .i64 0,.slice none 0 0,.slice none 0 0]) (by simp [results,Tryz.results18,go_sem, *]) rfl ?_;refine HF.out _ ?_
    repeat (first | with_reducible exact HB9.out | with_reducible refine Below.setCell ?_ (by first | omega | (simp <;> omega)) _)
  obtain ⟨h0,j,hj,hp,hid⟩:=ask_open hc;have HEX:Hid (EngAt W a a' E):=HXA.out.below HBW.out;have HH0:Hid (eF E=0):=h0;have HHC:Hid (askC E id=0):=hc;have HHP:Hid ((askP E id).toNat=j):=(by rw [Hid,hp,Int.toNat_natCast]);have hq32:=(eF_pq h0).2;have HR12:Hid (∀i,i<E.q→(E.R i).n≤12):=rows12 h0;have hj1:(j:Int)<(E.p:Int):=(by omega);have hj0:(0:Int)≤(j:Int):=(by omega);obtain ⟨b0,b1,b2,b3⟩:=HB4.out;rw [hc,hp];clear hc hp h0 hid;go_wp2_with fail;refine (l1Key_any key _).mono ?_;rintro e W2 ⟨rfl,hw2⟩;obtain rfl:=hw2.symm
  rcases (bool_orW (inB key 0 31)).symm with hk | hk
  · rw [hk]
    have HF:Hid (∀w7,Below w.heap.size w w7→ERes2 (wcC E id key 0 true) 0 (wcE E id key 0 true) w (.returned (.agg #[.int .i64 3,.int .i64 0,.int .i64 0,.int .i64 0,.slice none 0 0,.slice none 0 0])) w7):=fun w7 hb=>by
      have hC:wcC E id key 0 true=3:=(by unfold wcC;rw [if_pos HHC.out,hk,if_neg (by decide)]);rw [wc_bad hC (by first | decide | assumption),hC];exact eres_bad2 hb
    clear hk;go_wp2_with fail;refine (l6Bad_any 3 _).mono ?_;rintro e w9 ⟨rfl,hb9⟩;have HB9:Hid (Below w.heap.size w w9):=below_then HBW.out hb9;obtain ⟨r0,r1,r2,r3,r4,r5⟩:=(HR6.out.below (Below.refl _ _)).below hb9;have rf:∀i,w9.frozen? ⟨w.heap.size+1,i,none⟩=false:=fun i=>((bcell2 hb9).2 _ _ (HR6.out.below (Below.refl _ _)).lt).trans (((bcell2 (Below.refl _ _)).2 _ _ HR6.out.lt).trans (HRF.out i));clear hb9;go_wp2_with fail;refine bodyPost_ret (v:=.agg #[.int .i64 3,.int .i64 0,.int .i64 0,.int .i64 0,.slice none 0 0,.slice none 0 0]) (by simp [results,Tryz.results18,go_sem, *]) rfl ?_;refine HF.out _ ?_
    repeat (first | with_reducible exact HB9.out | with_reducible refine Below.setCell ?_ (by first | omega | (simp <;> omega)) _)
  have HKY:Hid (inB key 0 31=true):=hk;rw [hk];clear hk
  rcases HEX.out.1 with h9 | ⟨eb,eo,rfl,hel,hec⟩
  · omega
  obtain ⟨ei,ec,hCT,-,-⟩:=hec j hj;have HCT:Hid (CTx W eb (eo+j*5) (E.T j) ei ec):=hCT;clear hec hCT;go_wp2_with fail;refine (l6View_any (E.T j) eb (eo+j*5) ei ec _ HCT.out).mono ?_;rintro e w5 ⟨rfl,hb5⟩;have HB5:Hid (Below W.heap.size W w5):=hb5;have HBX5:Hid (EBox w5 w.heap.size (some ⟨eb,eo,none⟩) cap a' cap' E):=⟨HB4.out.below hb5,HEX.out.below hb5⟩;clear hb5;go_wp2_with fail;refine (l6Read_any E w.heap.size _ cap a' cap' (E.T j).am (E.T j).id key _ hq32 HR12.out HBX5.out).mono ?_;rintro e w6 ⟨rfl,hb6⟩;have HB6:Hid (Below W.heap.size W w6):=below_then HB5.out hb6;have HBW6:Hid (Below w.heap.size w w6):=below_then HBW.out HB6.out;clear hb6;have HCW:=cw_ww (key:=key) (v:=0) (g:=true) HH0.out hj (by decide) (fun _=>rfl);have e1:wcC E id key 0 true=cwC E j key 0 true:=(by unfold wcC;rw [if_pos HHC.out,HKY.out,if_pos rfl,if_pos (by decide),HHP.out])
  rcases (bool_orW (rdB E.q E.R (E.T j).am (E.T j).id key)).symm with hk | hk
  · rw [hk]
    have HF:Hid (∀w7,Below w.heap.size w w7→ERes2 (wcC E id key 0 true) 0 (wcE E id key 0 true) w (.returned (.agg #[.int .i64 4,.int .i64 0,.int .i64 0,.int .i64 0,.slice none 0 0,.slice none 0 0])) w7):=fun w7 hb=>by
      have hC:wcC E id key 0 true=4:=(by rw [e1,HCW.1,hk,if_pos ⟨rfl,rfl⟩]);rw [wc_bad hC (by first | decide | assumption),hC];exact eres_bad2 hb
    clear hk HCW e1;go_wp2_with fail;refine (l6Bad_any 4 _).mono ?_;rintro e w9 ⟨rfl,hb9⟩;have HB9:Hid (Below w.heap.size w w9):=below_then HBW6.out hb9;obtain ⟨r0,r1,r2,r3,r4,r5⟩:=(HR6.out.below HB6.out).below hb9;have rf:∀i,w9.frozen? ⟨w.heap.size+1,i,none⟩=false:=fun i=>((bcell2 hb9).2 _ _ (HR6.out.below HB6.out).lt).trans (((bcell2 HB6.out).2 _ _ HR6.out.lt).trans (HRF.out i));clear hb9;go_wp2_with fail;refine bodyPost_ret (v:=.agg #[.int .i64 4,.int .i64 0,.int .i64 0,.int .i64 0,.slice none 0 0,.slice none 0 0]) (by simp [results,Tryz.results18,go_sem, *]) rfl ?_;refine HF.out _ ?_
    repeat (first | with_reducible exact HB9.out | with_reducible refine Below.setCell ?_ (by first | omega | (simp <;> omega)) _)
  have HEQ:Hid (wcC E id key 0 true=wwC E j key∧wcE E id key 0 true=wwE E j key true 0):=by
    have e2:cwC E j key 0 true=wwC E j key:=(by rw [HCW.1,hk,if_neg (by simp)]);refine ⟨e1.trans e2,?_⟩;unfold wcE;rw [e1,HHP.out]
    by_cases hz:cwC E j key 0 true=0
    · rw [if_pos hz,HCW.2 hz]
    · rw [if_neg hz];unfold wwE;rw [if_neg (by rw [←e2];exact hz)]
  rw [hk];clear hk HCW e1;have HEX6:Hid (EngAt w6 (some ⟨eb,eo,none⟩) a' E):=HEX.out.below HB6.out;obtain ⟨b0,b1,b2,b3⟩:=HB4.out.below HB6.out;go_wp2_with fail;refine (l6Write_any E _ cap a' cap' j key 0 true _ HH0.out hj HEX6.out).mono ?_;rintro e w8 ⟨a2,c2,a3,c3,rfl,hb8,hown⟩;have hs6:w.heap.size+2≤w6.heap.size:=(by have:=HB6.out.size;omega)
  have HF:Hid (∀w7,Writes (w.heap.size+1) (w.heap.size+2) w8 w7→w7.heap.size=w8.heap.size→ERes2 (wcC E id key 0 true) 0 (wcE E id key 0 true) w (.returned (.agg #[.int .i64 (wwC E j key),.int .i64 0,.int .i64 (wwE E j key true 0).nx,.int .i64 (wwE E j key true 0).ck,.slice a2 (wwE E j key true 0).p c2,.slice a3 (wwE E j key true 0).q c3])) w7):=fun w7 hw hz=>by
    rw [HEQ.out.1,HEQ.out.2];refine ⟨a2,c2,a3,c3,rfl,Writes.below (below_then HBW6.out hb8) hw (by omega),?_⟩;exact eres_wide (hown.writes hw (.inr (by omega))) (by omega) (by have:=hw.size;omega) (Nat.le_refl _)
  obtain ⟨r0,r1,r2,r3,r4,r5⟩:=(HR6.out.below HB6.out).below hb8;have rf:∀i,w8.frozen? ⟨w.heap.size+1,i,none⟩=false:=fun i=>((bcell2 hb8).2 _ _ (HR6.out.below HB6.out).lt).trans (((bcell2 HB6.out).2 _ _ HR6.out.lt).trans (HRF.out i));clear hb8 hown b0 b1 b2 b3;generalize wwE E j key true 0=GE at *;generalize wwC E j key=c at *;go_wp2_with fail;refine bodyPost_ret (v:=.agg #[.int .i64 c,.int .i64 0,.int .i64 GE.nx,.int .i64 GE.ck,.slice a2 GE.p c2,.slice a3 GE.q c3]) (by simp [results,Tryz.results18,go_sem, *]) rfl ?_;refine HF.out _ ?_ (by simp [World.setCell])
  repeat (first | with_reducible exact Writes.refl _ _ _ | with_reducible refine Writes.setCell ?_ (by first | omega | (simp <;> omega)) (by first | omega | (simp <;> omega)) _)
theorem tIn_mono {nx ck nx' ck':Int} {t:Tx} (hn:nx≤nx') (hc:ck≤ck') (h:tIn nx ck t=true):tIn nx' ck' t=true:=by
  unfold tIn at h ⊢;simp only [Bool.and_eq_true,inB_iff] at h ⊢;omega
theorem upf_id {T:Nat→Tx} {j:Nat} {t:Tx} (h:t.id=(T j).id) (i:Nat):(upf T j t i).id=(T i).id:=by
  by_cases e:i=j
  · subst e;rw [upf_eq,h]
  · rw [upf_ne _ _ e]
theorem tx_put {nx ck nx' ck':Int} {p j:Nat} {T:Nat→Tx} {t:Tx} (h:∀i,i<p→tF nx ck T i=0) (hn:nx≤nx') (hc:ck≤ck') (hid:t.id=(T j).id) (h1:tIn nx' ck' t=true) (h2:tB2 t=false) (h3:tB3 t=false) (h4:usF t.n t.U=0):∀i,i<p→tF nx' ck' (upf T j t) i=0:=fun i hi=>by
  obtain ⟨k1,k2,k3,k4,k5⟩:=tF_good (h i hi)
  have hb:tB1 (upf T j t) i=false:=by
    unfold tB1 at k2 ⊢;rw [upf_id hid,upf_id hid];exact k2
  by_cases e:i=j
  · subst e;exact tF_of (by rw [upf_eq];exact h1) hb (by rw [upf_eq];exact h2) (by rw [upf_eq];exact h3) (by rw [upf_eq];exact h4)
  · exact tF_of (by rw [upf_ne _ _ e];exact tIn_mono hn hc k1) hb (by rw [upf_ne _ _ e];exact k3) (by rw [upf_ne _ _ e];exact k4) (by rw [upf_ne _ _ e];exact k5)
theorem Gd.ids {nx ck:Int} {p:Nat} {T:Nat→Tx} {rs:List Rw} (h:Gd nx ck p T rs) {i j:Nat} (hi:i<p) (hj:j<p) (e:(T i).id=(T j).id):i=j:=by
  have hr:=ids_rise h.tx
  rcases Nat.lt_trichotomy i j with c | c | c
  · have:=hr j hj i c;omega
  · exact c
  · have:=hr i hi j c;omega
theorem RG.mono {ck ck':Int} {r:Rw} (h:RG ck r) (hc:ck≤ck'):RG ck' r:=by
  obtain ⟨h1,h2,h3,h4,h5⟩:=h;exact ⟨h1,h2,h3,by omega,fun e=>by have:=h5 e;omega⟩
theorem Gd.begin {nx ck:Int} {p:Nat} {T:Nat→Tx} {rs:List Rw} {U0:Nat→Ud} (h:Gd nx ck p T rs) (hp:p≠20) (hx:nx≠999):Gd (nx+1) ck (p+1) (upf T p ⟨nx,ck,1,0,0,U0⟩) rs:=by
  have k1:=h.hnx;have k2:=h.hck;have k3:=h.hp;refine ⟨by omega,k2,by omega,fun i hi=>?_,h.rg,h.ri,?_⟩
  · by_cases e:i=p
    · subst e;refine tF_of ?_ ?_ ?_ ?_ ?_
      · rw [upf_eq];unfold tIn;simp only [Bool.and_eq_true,inB_iff];omega
      · unfold tB1;rw [upf_eq]
        by_cases e0:0<i
        · rw [upf_ne _ _ (by omega)];have:=(tF_good (h.tx (i-1) (by omega))).1;unfold tIn at this;simp only [Bool.and_eq_true,inB_iff] at this;simp;omega
        · simp [e0]
      · rw [upf_eq];rfl
      · rw [upf_eq];rfl
      · rw [upf_eq];exact usF_of (by show 0≤60;omega) fun j hj=>by exact absurd hj (Nat.not_lt_zero _)
    · have hi':i<p:=by omega
      obtain ⟨t1,t2,t3,t4,t5⟩:=tF_good (h.tx i hi');refine tF_of ?_ ?_ ?_ ?_ ?_
      · rw [upf_ne _ _ e];exact tIn_mono (by omega) (Int.le_refl _) t1
      · unfold tB1 at t2 ⊢;rw [upf_ne _ _ e,upf_ne _ _ (by omega)];exact t2
      · rw [upf_ne _ _ e];exact t3
      · rw [upf_ne _ _ e];exact t4
      · rw [upf_ne _ _ e];exact t5
  · constructor
    · intro r hr ha;obtain ⟨i,x1,x2⟩:=h.lk.op r hr ha;exact ⟨i,by omega,by rw [upf_ne _ _ (by omega)];exact x2⟩
    · intro i hi j hj
      by_cases e:i=p
      · subst e;rw [upf_eq] at hj;exact absurd hj (Nat.not_lt_zero _)
      · rw [upf_ne _ _ e] at hj ⊢;exact h.lk.ow i (by omega) j hj
theorem vR_lit {t a v:Int} {g:Bool} (h1:1≤t∧t≤999) (h2:0≤a∧a≤1000000) (h3:0≤v∧v≤9999):vR ⟨t,a,g,v⟩=true:=by
  unfold vR;simp only [Bool.and_eq_true,inB_iff];exact ⟨⟨h1,h2⟩,h3⟩
theorem ch_at {n:Nat} {U:Nat→Vr} (h:chF n U=0) {j:Nat} (hj:j<n):(1≤(U j).t∧(U j).t≤999)∧(0≤(U j).a∧(U j).a≤1000000)∧(0≤(U j).v∧(U j).v≤9999)∧((U j).g && (U j).v != 0)=false:=by
  obtain ⟨h1,h2⟩:=(chF_good h).2 j hj;unfold vR at h1;simp only [Bool.and_eq_true,inB_iff] at h1;unfold vF at h2;simp only [Bool.or_eq_false_iff] at h2;exact ⟨h1.1.1,h1.1.2,h1.2,h2.1⟩
theorem ch_first {n:Nat} {U:Nat→Vr} {x:Vr} (h:chF n U=0) (hn:0<n) (hx:vR x=true) (hg:(x.g && x.v != 0)=false) (ho:1<n→older (U 1) x=true):chF n (fun i=>if i=0 then x else U i)=0:=by
  refine chF_of (chF_good h).1 fun j hj=>?_;obtain ⟨h1,h2⟩:=(chF_good h).2 j hj
  by_cases e:j=0
  · subst e;refine ⟨by simpa using hx,?_⟩;unfold vF;simp [hg]
  · refine ⟨by simpa [e] using h1,?_⟩;unfold vF at h2 ⊢;simp only [e,if_false]
    by_cases e1:j=1
    · subst e1;simp only [Bool.or_eq_false_iff] at h2 ⊢;refine ⟨h2.1,?_⟩;simp [ho hj]
    · have:j-1≠0:=by omega
      simp only [this,if_false];exact h2
theorem ch_tail {n:Nat} {U:Nat→Vr} (h:chF n U=0):chF (n-1) (fun i=>U (i+1))=0:=by
  refine chF_of (by have:=(chF_good h).1;omega) fun j hj=>?_;obtain ⟨h1,h2⟩:=(chF_good h).2 (j+1) (by omega);refine ⟨h1,?_⟩;unfold vF at h2 ⊢;simp only [Nat.add_sub_cancel,Bool.or_eq_false_iff] at h2;simp only [Bool.or_eq_false_iff];refine ⟨h2.1,?_⟩
  by_cases e:0<j
  · have h3:=h2.2;rw [show (j-1+1)=j by omega]
    simpa [e] using h3
  · simp [e]
theorem ch_cons {n:Nat} {U:Nat→Vr} {x:Vr} (h:chF n U=0) (hn:n<12) (hx:vR x=true) (hg:(x.g && x.v != 0)=false) (hxa:x.a=0) (h0:0<n→(U 0).a≠0):chF (n+1) (fun i=>if i=0 then x else U (i-1))=0:=by
  refine chF_of (by omega) fun j hj=>?_
  by_cases e:j=0
  · subst e;refine ⟨by simpa using hx,?_⟩;unfold vF;simp [hg]
  · obtain ⟨h1,h2⟩:=(chF_good h).2 (j-1) (by omega);refine ⟨by simpa [e] using h1,?_⟩;unfold vF at h2 ⊢;simp only [e,if_false];simp only [Bool.or_eq_false_iff] at h2 ⊢;refine ⟨h2.1,?_⟩
    by_cases e1:j=1
    · subst e1;have:=h0 (by omega);simp [older,hxa,this]
    · have e2:j-1≠0:=by omega
      simp only [e2,if_false];have h3:=h2.2;rw [show decide (0<j-1)=true by simp;omega,Bool.true_and] at h3;rw [show decide (0<j)=true by simp;omega,Bool.true_and];exact h3
theorem a_falls {ck:Int} {r:Rw} (h:RG ck r):∀i,i<r.n→(r.U i).a≤ck:=at_falls h.2.2.1 h.2.2.2.1 h.2.2.2.2
theorem fob_iff {r:Rw} {id:Int} (hn:0<r.n):fob r.n r.U id=true↔(r.U 0).t=id∧(r.U 0).a=0:=by
  unfold fob;simp [hn]
theorem Gd.commit {nx ck:Int} {p j:Nat} {T:Nat→Tx} {rs:List Rw} (h:Gd nx ck p T rs) (hj:j<p) (hst:(T j).st=1) (hck:ck≠1000000):Gd nx (ck+1) p (upf T j ⟨(T j).id,(T j).am,2,ck+1,0,(T j).U⟩) (rs.map (fun r=>cmR r (T j).id (ck+1))):=by
  have k1:=h.hnx;have k2:=h.hck;obtain ⟨t1,t2,t3,t4,t5⟩:=tF_good (h.tx j hj);have t1':=t1;unfold tIn at t1';simp only [Bool.and_eq_true,inB_iff] at t1'
  have hkey:∀r:Rw,(cmR r (T j).id (ck+1)).key=r.key:=fun r=>by unfold cmR;split <;> rfl
  have hcn:∀r:Rw,(cmR r (T j).id (ck+1)).n=r.n:=fun r=>by unfold cmR;split <;> rfl
  have hne:∀r ∈ rs,(r.U 0).t≠(T j).id→cmR r (T j).id (ck+1)=r:=fun r hr e=>by
    unfold cmR;rw [if_neg];intro hf;exact e ((fob_iff (h.rg r hr).2.1).1 hf).1
  refine ⟨k1,by omega,h.hp,tx_put h.tx (Int.le_refl _) (by omega) rfl ?_ ?_ ?_ ?_,fun r' hr'=>?_,?_,?_⟩
  · unfold tIn;simp only [Bool.and_eq_true,inB_iff];omega
  · unfold tB2;simp;omega
  · unfold tB3;simp
  · exact usF_of (by show 0≤60;omega) fun q hq=>by exact absurd hq (Nat.not_lt_zero _)
  · obtain ⟨r,hr,rfl⟩:=List.mem_map.1 hr';have hg:=h.rg r hr;unfold cmR;split
    · rename_i hf;obtain ⟨f1,f2⟩:=(fob_iff hg.2.1).1 hf;obtain ⟨v1,v2,v3,v4⟩:=ch_at hg.2.2.1 hg.2.1;refine ⟨hg.1,hg.2.1,?_,?_,fun e=>?_⟩
      · refine ch_first hg.2.2.1 hg.2.1 (vR_lit v1 (by omega) v3) v4 fun e=>?_;obtain ⟨o1,-⟩:=older_at hg.2.2.1 (j:=0) (by omega);have:=hg.2.2.2.2 e;unfold older;simp [o1];omega
      · show (coS r.U (ck+1) 0).a≤ck+1;simp [coS]
      · have:=hg.2.2.2.2 e;show (coS r.U (ck+1) 1).a≤ck+1;simp [coS];omega
    · exact hg.mono (by omega)
  · refine List.pairwise_map.2 (h.ri.imp fun hlt=>?_);rw [hkey,hkey];exact hlt
  · constructor
    · intro r' hr' ha;obtain ⟨r,hr,rfl⟩:=List.mem_map.1 hr'
      have hnf:¬fob r.n r.U (T j).id=true:=fun hf=>by
        unfold cmR at ha;rw [if_pos hf] at ha;simp [coS] at ha;omega
      have e:cmR r (T j).id (ck+1)=r:=if_neg hnf;rw [e] at ha ⊢;obtain ⟨i,x1,x2,x3,x4⟩:=h.lk.op r hr ha;have hij:i≠j:=fun c=>hnf ((fob_iff (h.rg r hr).2.1).2 ⟨by rw [←x2,c],ha⟩);exact ⟨i,x1,by rw [upf_ne _ _ hij];exact ⟨x2,x3,x4⟩⟩
    · intro i hi q hq
      by_cases e:i=j
      · subst e;rw [upf_eq] at hq;exact absurd hq (Nat.not_lt_zero _)
      · rw [upf_ne _ _ e] at hq ⊢;obtain ⟨⟨r,hr,y1,y2,y3⟩,y4⟩:=h.lk.ow i hi q hq;have hid:(r.U 0).t≠(T j).id:=fun c=>e (h.ids hi hj (by rw [←y3,c]));refine ⟨⟨r,List.mem_map.2 ⟨r,hr,hne r hr hid⟩,y1,y2,y3⟩,y4⟩
theorem Gd.state {nx ck:Int} {p j:Nat} {T:Nat→Tx} {rs:List Rw} {st:Int} {U:Nat→Ud} (h:Gd nx ck p T rs) (hj:j<p) (hst:(T j).st=1) (hn:(T j).n=0) (hs:1≤st∧st≤3):Gd nx ck p (upf T j ⟨(T j).id,(T j).am,st,(T j).dn,0,U⟩) rs:=by
  obtain ⟨t1,t2,t3,t4,t5⟩:=tF_good (h.tx j hj)
  have hdn:(T j).dn=0:=by
    unfold tB2 at t3;rw [hst] at t3;simp at t3;exact t3
  have t1':=t1;unfold tIn at t1';simp only [Bool.and_eq_true,inB_iff] at t1';refine ⟨h.hnx,h.hck,h.hp,tx_put h.tx (Int.le_refl _) (Int.le_refl _) rfl ?_ ?_ ?_ ?_,h.rg,h.ri,?_⟩
  · unfold tIn;simp only [Bool.and_eq_true,inB_iff];omega
  · unfold tB2;simp [hdn]
  · unfold tB3;simp
  · exact usF_of (by show 0≤60;omega) fun q hq=>by exact absurd hq (Nat.not_lt_zero _)
  · constructor
    · intro r hr ha;obtain ⟨i,x1,x2,x3,x4⟩:=h.lk.op r hr ha
      have hij:i≠j:=fun c=>by subst c;rw [hn] at x4;simp [hasU] at x4
      exact ⟨i,x1,by rw [upf_ne _ _ hij];exact ⟨x2,x3,x4⟩⟩
    · intro i hi q hq
      by_cases e:i=j
      · subst e;rw [upf_eq] at hq;exact absurd hq (Nat.not_lt_zero _)
      · rw [upf_ne _ _ e] at hq ⊢;exact h.lk.ow i hi q hq
theorem RiL.one {rs:List Rw} (h:RiL rs) {r s:Rw} (hr:r ∈ rs) (hs:s ∈ rs) (e:r.key=s.key):r=s:=by
  obtain ⟨i,hi,rfl⟩:=List.getElem_of_mem hr;obtain ⟨j,hj,rfl⟩:=List.getElem_of_mem hs;have hp:=List.pairwise_iff_getElem.1 h
  rcases Nat.lt_trichotomy i j with c | c | c
  · have:=hp i j hi hj c;omega
  · subst c;rfl
  · have:=hp j i hj hi c;omega
theorem hasU_step (U:Nat→Ud) (key:Int) (k:Nat):hasU U key (k+1)=(hasU U key k || (U k).k == key):=rfl
theorem hasU_upf (U:Nat→Ud) (key:Int) (n:Nat) (u:Ud):∀k,k≤n→hasU (upf U n u) key k=hasU U key k
  | 0,_=>rfl
  | k+1,h=>by rw [hasU_step,hasU_step,hasU_upf U key n u k (by omega),upf_ne _ _ (by omega)]
theorem tx_id {nx ck:Int} {p:Nat} {T:Nat→Tx} {rs:List Rw} (h:Gd nx ck p T rs) {j:Nat} (hj:j<p):(1≤(T j).id∧(T j).id≤999)∧0≤(T j).am∧(T j).am≤ck:=by
  have t1:=(tF_good (h.tx j hj)).1;have:=h.hnx;unfold tIn at t1;simp only [Bool.and_eq_true,inB_iff] at t1;omega
theorem tx_keep {nx ck:Int} {T:Nat→Tx} {j n:Nat} {U:Nat→Ud} (h:tF nx ck T j=0) (hst:(T j).st=1) (hu:usF n U=0):tIn nx ck ⟨(T j).id,(T j).am,(T j).st,(T j).dn,n,U⟩=true∧tB2 ⟨(T j).id,(T j).am,(T j).st,(T j).dn,n,U⟩=false∧tB3 ⟨(T j).id,(T j).am,(T j).st,(T j).dn,n,U⟩=false:=by
  obtain ⟨t1,t2,t3,t4,t5⟩:=tF_good h;refine ⟨t1,t3,?_⟩;unfold tB3;simp [hst]
theorem Gd.take {nx ck:Int} {p j k:Nat} {T:Nat→Tx} {rs:List Rw} (h:Gd nx ck p T rs) (hj:j<p) (hst:(T j).st=1) (hn:(T j).n=k+1) :
    Gd nx ck p (upf T j ⟨(T j).id,(T j).am,(T j).st,(T j).dn,k,(T j).U⟩) (tkL (T j).id ((T j).U k) rs):=by
  obtain ⟨⟨r0,hr0,e1,e2,e3⟩,eh⟩:=h.lk.ow j hj k (by omega);obtain ⟨hid,ham⟩:=tx_id h hj;have hus:=(tF_good (h.tx j hj)).2.2.2.2;have hu0:=usF_at hus k (by omega);have hu60:(T j).n≤60:=(by unfold usF at hus;split at hus;cases hus;omega);have hus2:usF k (T j).U=0:=usF_of (by omega) fun q hq=>usF_at hus q (by omega);obtain ⟨k1,k2,k3⟩:=tx_keep (n:=k) (U:=(T j).U) (h.tx j hj) hst hus2;have hone:∀r ∈ rs,r.key=((T j).U k).k→r=r0:=fun r hr e=>h.ri.one hr hr0 (by rw [e,e1])
  have huk:inB ((T j).U k).v 0 9999=true∧uB ((T j).U k)=false:=by
    unfold uF at hu0;split at hu0
    · cases hu0
    · rename_i hh;split at hu0
      · cases hu0
      · rename_i hb;refine ⟨?_,by simpa using hb⟩;cases hc:inB ((T j).U k).v 0 9999 with
        | true=>rfl
        | false=>exact absurd (.inr hc) hh
  have hG0:=h.rg r0 hr0
  have hmem:∀r ∈ rs,r.key≠((T j).U k).k→r ∈ tkL (T j).id ((T j).U k) rs:=fun r hr e=>by
    refine List.mem_filter.2 ⟨List.mem_map.2 ⟨r,hr,?_⟩,by simpa using (h.rg r hr).2.1⟩;unfold tkF;rw [if_neg e]
  have hin:∀r',r' ∈ tkL (T j).id ((T j).U k) rs→(r' ∈ rs∧r'.key≠((T j).U k).k)∨(r'=tkR (T j).id ((T j).U k) r0∧0<r'.n):=fun r' hr'=>by
    obtain ⟨hm,hp⟩:=List.mem_filter.1 hr';obtain ⟨r,hr,rfl⟩:=List.mem_map.1 hm
    by_cases e:r.key=((T j).U k).k
    · right;refine ⟨?_,by simpa using hp⟩;unfold tkF;rw [if_pos e,hone r hr e]
    · left;have:tkF (T j).id ((T j).U k) r=r:=if_neg e;rw [this];exact ⟨hr,e⟩
  refine ⟨h.hnx,h.hck,h.hp,tx_put h.tx (Int.le_refl _) (Int.le_refl _) rfl k1 k2 k3 hus2,fun r' hr'=>?_,?_,?_⟩
  · rcases hin r' hr' with ⟨hr,-⟩ | ⟨rfl,hp⟩
    · exact h.rg r' hr
    · obtain ⟨g1,g2,g3,g4,g5⟩:=hG0;unfold tkR at hp ⊢;split
      · rename_i hh;refine ⟨g1,g2,?_,?_,g5⟩
        · refine ch_first g3 g2 (vR_lit hid ⟨by decide,by decide⟩ (inB_iff.1 huk.1)) ?_ fun hn1=>?_
          · have:=huk.2;unfold uB at this;simp only [Bool.or_eq_false_iff] at this;exact this.2
          · obtain ⟨o1,-⟩:=older_at g3 (j:=0) (by omega);unfold older;simp [o1]
        · show (0:Int)≤ck;exact h.hck.1
      · rename_i hh;rw [if_neg hh] at hp;have hp':0<r0.n-1:=hp;refine ⟨g1,hp,ch_tail g3,?_,fun hn1=>?_⟩
        · exact g5 (by omega)
        · have hn1':1<r0.n-1:=hn1;exact a_falls ⟨g1,g2,g3,g4,g5⟩ 2 (by omega)
  · refine List.Pairwise.filter _ (List.pairwise_map.2 (h.ri.imp fun hlt=>?_));rw [tkF_key,tkF_key];exact hlt
  · constructor
    · intro r' hr' ha
      rcases hin r' hr' with ⟨hr,hk⟩ | ⟨rfl,hp⟩
      · obtain ⟨i,x1,x2,x3,x4⟩:=h.lk.op r' hr ha
        by_cases c:i=j
        · subst c;refine ⟨i,x1,by rw [upf_eq];exact x2,by rw [upf_eq];exact x3,?_⟩;rw [upf_eq];rw [hn,hasU_step] at x4;show hasU (T i).U r'.key k=true;rw [Bool.or_eq_true] at x4
          rcases x4 with x4 | x4
          · exact x4
          · exact absurd (by simpa using x4:((T i).U k).k=r'.key).symm hk
        · exact ⟨i,x1,by rw [upf_ne _ _ c];exact ⟨x2,x3,x4⟩⟩
      · obtain ⟨g1,g2,g3,g4,g5⟩:=hG0;unfold tkR at ha ⊢;split at ha
        · rename_i hh;rw [if_pos hh];refine ⟨j,hj,by rw [upf_eq];rfl,by rw [upf_eq];exact hst,?_⟩;rw [upf_eq];show hasU (T j).U r0.key k=true;rw [e1,←eh];exact hh
        · rename_i hh;have hp':0<r0.n-1:=(by unfold tkR at hp;rw [if_neg hh] at hp;exact hp);have ha':(r0.U (0+1)).a=0:=ha;exact absurd ha' (older_at g3 (j:=0) (by omega)).1
    · intro i hi q hq
      by_cases c:i=j
      · subst c;rw [upf_eq] at hq ⊢;have hq':q<k:=hq;obtain ⟨⟨r,hr,y1,y2,y3⟩,y4⟩:=h.lk.ow i hi q (by omega);refine ⟨?_,y4⟩
        by_cases e:r.key=((T i).U k).k
        · have hh:((T i).U k).h=true:=by
            rw [eh];exact (hasU_iff _ _ _).2 ⟨q,hq',by rw [←y1,e]⟩
          refine ⟨tkR (T i).id ((T i).U k) r0,List.mem_filter.2 ⟨List.mem_map.2 ⟨r0,hr0,?_⟩,?_⟩,?_,?_,?_⟩
          · unfold tkF;rw [if_pos e1]
          · unfold tkR;rw [if_pos hh];simpa using hG0.2.1
          · unfold tkR;rw [if_pos hh];show r0.key=((T i).U q).k;rw [e1,←e,y1]
          · unfold tkR;rw [if_pos hh];rfl
          · unfold tkR;rw [if_pos hh];rfl
        · exact ⟨r,hmem r hr e,y1,y2,y3⟩
      · rw [upf_ne _ _ c] at hq ⊢;obtain ⟨⟨r,hr,y1,y2,y3⟩,y4⟩:=h.lk.ow i hi q hq;refine ⟨⟨r,hmem r hr fun e=>?_,y1,y2,y3⟩,y4⟩;have:=hone r hr e;rw [this,e3] at y3;exact c (h.ids hi hj y3.symm)
theorem Gd.un {nx ck:Int} {p j:Nat} {T:Nat→Tx} {rs:List Rw} (h:Gd nx ck p T rs) (hj:j<p) (hst:(T j).st=1):∀m,m≤(T j).n→
    Gd nx ck p (upf T j ⟨(T j).id,(T j).am,(T j).st,(T j).dn,(T j).n-m,(T j).U⟩) (unL (T j).id (T j).U (T j).n rs m)
  | 0,_=>by
    have e:upf T j ⟨(T j).id,(T j).am,(T j).st,(T j).dn,(T j).n-0,(T j).U⟩=T:=by
      funext i
      by_cases c:i=j
      · subst c;rw [upf_eq];rfl
      · rw [upf_ne _ _ c]
    rw [e];exact h
  | m+1,hm=>by
    have h1:=h.un hj hst m (by omega);have h2:=h1.take (j:=j) (k:=(T j).n-1-m) hj (by rw [upf_eq];exact hst) (by rw [upf_eq];show (T j).n-m=_;omega);rw [upf_eq] at h2
    have e:∀t,upf (upf T j ⟨(T j).id,(T j).am,(T j).st,(T j).dn,(T j).n-m,(T j).U⟩) j t=upf T j t:=fun t=>by
      funext i
      by_cases c:i=j
      · subst c;rw [upf_eq,upf_eq]
      · rw [upf_ne _ _ c,upf_ne _ _ c,upf_ne _ _ c]
    rw [e] at h2;show Gd nx ck p (upf T j ⟨(T j).id,(T j).am,(T j).st,(T j).dn,(T j).n-(m+1),(T j).U⟩) (tkL (T j).id ((T j).U ((T j).n-1-m)) (unL (T j).id (T j).U (T j).n rs m));rw [show (T j).n-(m+1)=(T j).n-1-m by omega];exact h2
theorem mayB_open {n:Nat} {U:Nat→Vr} {am id:Int} (h:mayB n U am id=true) (hn:0<n) (ha:(U 0).a=0):(U 0).t=id:=by
  unfold mayB at h;rw [Bool.or_eq_true] at h
  rcases h with h | h
  · simp at h;omega
  · rw [if_pos ha] at h;simpa using h
theorem uo_key (n:Nat) (U:Nat→Vr) (id key:Int):(uoF n U id key).k=key:=by unfold uoF;split <;> rfl
theorem uo_h (n:Nat) (U:Nat→Vr) (id key:Int):(uoF n U id key).h=fob n U id:=by
  unfold uoF;split
  · rename_i h;rw [h]
  · rename_i h;simp at h;rw [h]
theorem uo_good {n:Nat} {U:Nat→Vr} {id key:Int} (h:0<n→chF n U=0) (hk:inB key 0 31=true):uF (uoF n U id key)=0:=by
  unfold uoF;split
  · rename_i hf;have hn:0<n:=(by unfold fob at hf;simp only [Bool.and_eq_true,decide_eq_true_eq] at hf;exact hf.1);obtain ⟨v1,v2,v3,v4⟩:=ch_at (h hn) hn;have hb:uB ⟨key,true,(U 0).g,(U 0).v⟩=false:=(by unfold uB;simp only [Bool.not_true,Bool.false_and,Bool.false_or];exact v4)
    have hn1:¬(inB key 0 31=false∨inB (U 0).v 0 9999=false):=by
      rintro (e | e)
      · rw [hk] at e;cases e
      · rw [inB_iff.2 v3] at e;cases e
    unfold uF;rw [hb];rw [if_neg hn1];rfl
  · have hn1:¬(inB key 0 31=false∨inB (0:Int) 0 9999=false):=by
      rintro (e | e)
      · rw [hk] at e;cases e
      · cases e
    unfold uF;rw [if_neg hn1];rfl
def wN (n:Nat) (U:Nat→Vr) (id:Int):Nat:=if fob n U id=true then n else n+1
def wS (n:Nat) (U:Nat→Vr) (id:Int) (g:Bool) (v:Int):Nat→Vr:=if fob n U id=true then pxA U ⟨id,0,g,v⟩ else pxC U ⟨id,0,g,v⟩
theorem wS_first (n:Nat) (U:Nat→Vr) (id:Int) (g:Bool) (v:Int):(wS n U id g v 0).a=0∧(wS n U id g v 0).t=id:=by
  unfold wS
  split <;> exact ⟨rfl,rfl⟩
theorem RG.write {ck:Int} {n:Nat} {U:Nat→Vr} {id key am v:Int} {g:Bool} (hU:0<n→RG ck ⟨key,n,U⟩) (hck:0≤ck) (hid:1≤id∧id≤999) (hk:inB key 0 31=true) (hv:0≤v∧v≤9999) (hg:(g && v != 0)=false) (hm:mayB n U am id=true) (hw:fob n U id=true∨n≠12) :
    RG ck ⟨key,wN n U id,wS n U id g v⟩:=by
  have hx:vR ⟨id,0,g,v⟩=true:=vR_lit hid ⟨by decide,by decide⟩ hv
  by_cases hf:fob n U id=true
  · have hn:0<n:=by unfold fob at hf;simp only [Bool.and_eq_true,decide_eq_true_eq] at hf;exact hf.1
    obtain ⟨g1,g2,g3,g4,g5⟩:=hU hn;unfold wN wS;rw [if_pos hf,if_pos hf];refine ⟨hk,hn,?_,hck,fun h1=>?_⟩
    · exact ch_first g3 hn hx hg fun h1=>by
        obtain ⟨o1,-⟩:=older_at g3 (j:=0) (by show 0+1<n;omega);unfold older;simp [o1]
    · exact g5 h1
  · have h0:0<n→(U 0).a≠0:=fun hn ha=>hf ((fob_iff (r:=⟨key,n,U⟩) hn).2 ⟨mayB_open hm hn ha,ha⟩);unfold wN wS;rw [if_neg hf,if_neg hf];have hn12:n≠12:=(by rcases hw with h | h;exact absurd h hf;exact h)
    by_cases hn:0<n
    · obtain ⟨g1,g2,g3,g4,g5⟩:=hU hn;have hle:=(chF_good g3).1;have hle':n≤12:=hle;refine ⟨hk,Nat.succ_pos _,ch_cons g3 (by omega) hx hg rfl h0,hck,fun h1=>?_⟩;exact g4
    · have e:n=0:=by omega
      subst e;refine ⟨hk,Nat.succ_pos _,chF_of (by show 0+1≤12;omega) fun q hq=>?_,hck,fun h1=>?_⟩
      · have:q=0:=by have:q<0+1:=hq;omega
        subst this;refine ⟨hx,?_⟩;unfold vF;show ((g && v != 0) || _)=false;rw [hg];simp
      · exact absurd h1 (by show ¬1<0+1;omega)
theorem Gd.write {nx ck:Int} {p j n:Nat} {T:Nat→Tx} {rs rs':List Rw} {U:Nat→Vr} {key v:Int} {g:Bool} (h:Gd nx ck p T rs) (hj:j<p) (hst:(T j).st=1) (hk:inB key 0 31=true) (hv:0≤v∧v≤9999) (hg:(g && v != 0)=false)
    (hold:(0<n∧⟨key,n,U⟩ ∈ rs)∨(n=0∧∀r ∈ rs,r.key≠key)) (hm:mayB n U (T j).am (T j).id=true) (hw:fob n U (T j).id=true∨n≠12) (h60:(T j).n≠60)
    (hri:RiL rs') (hin:∀r,r ∈ rs'↔r=⟨key,wN n U (T j).id,wS n U (T j).id g v⟩∨(r ∈ rs∧r.key≠key)) :
    Gd nx ck p (upf T j ⟨(T j).id,(T j).am,(T j).st,(T j).dn,(T j).n+1,upf (T j).U (T j).n (uoF n U (T j).id key)⟩) rs':=by
  obtain ⟨hid,ham⟩:=tx_id h hj
  have hU:0<n→RG ck ⟨key,n,U⟩:=fun hn=>by
    rcases hold with ⟨-,hr⟩ | ⟨e,-⟩
    · exact h.rg _ hr
    · omega
  have hus:=(tF_good (h.tx j hj)).2.2.2.2;have hu60:(T j).n≤60:=(by unfold usF at hus;split at hus;cases hus;omega)
  have hus2:usF ((T j).n+1) (upf (T j).U (T j).n (uoF n U (T j).id key))=0:=usF_of (by omega) fun q hq=>by
    by_cases e:q=(T j).n
    · subst e;rw [upf_eq];exact uo_good (fun hn=>(hU hn).2.2.1) hk
    · rw [upf_ne _ _ e];exact usF_at hus q (by omega)
  obtain ⟨k1,k2,k3⟩:=tx_keep (n:=(T j).n+1) (U:=upf (T j).U (T j).n (uoF n U (T j).id key)) (h.tx j hj) hst hus2
  have hone:∀r ∈ rs,r.key=key→0<n∧r=⟨key,n,U⟩:=fun r hr e=>by
    rcases hold with ⟨hn,hr0⟩ | ⟨-,hno⟩
    · exact ⟨hn,h.ri.one hr hr0 e⟩
    · exact absurd e (hno r hr)
  have hfo:fob n U (T j).id=hasU (T j).U key (T j).n:=by
    cases hf:fob n U (T j).id with
    | true=>
      have hn:0<n:=(by unfold fob at hf;simp only [Bool.and_eq_true,decide_eq_true_eq] at hf;exact hf.1);obtain ⟨f1,f2⟩:=(fob_iff (r:=⟨key,n,U⟩) hn).1 hf
      rcases hold with ⟨-,hr0⟩ | ⟨e,-⟩
      · obtain ⟨i,x1,x2,x3,x4⟩:=h.lk.op _ hr0 f2;have c:i=j:=h.ids x1 hj (by rw [x2];exact f1);subst c;exact x4.symm
      · omega
    | false=>
      cases hu:hasU (T j).U key (T j).n with
      | false=>rfl
      | true=>
        obtain ⟨q,hq,e⟩:=(hasU_iff _ _ _).1 hu;obtain ⟨⟨r,hr,y1,y2,y3⟩,-⟩:=h.lk.ow j hj q hq;obtain ⟨hn,rfl⟩:=hone r hr (by rw [y1,e]);have:=(fob_iff (r:=⟨key,n,U⟩) (id:=(T j).id) hn).2 ⟨y3,y2⟩;have this':fob n U (T j).id=true:=this;rw [hf] at this';exact this'
  have hy:=(hin _).2 (.inl rfl);refine ⟨h.hnx,h.hck,h.hp,tx_put h.tx (Int.le_refl _) (Int.le_refl _) rfl k1 k2 k3 hus2,fun r hr=>?_,hri,?_⟩
  · rcases (hin r).1 hr with rfl | ⟨hr,-⟩
    · exact RG.write hU h.hck.1 hid hk hv hg hm hw
    · exact h.rg r hr
  · constructor
    · intro r hr ha
      rcases (hin r).1 hr with rfl | ⟨hr,hne⟩
      · refine ⟨j,hj,by rw [upf_eq];exact (wS_first _ _ _ _ _).2.symm,by rw [upf_eq];exact hst,?_⟩;rw [upf_eq];show hasU (upf (T j).U (T j).n (uoF n U (T j).id key)) key ((T j).n+1)=true;rw [hasU_step,upf_eq,uo_key];simp
      · obtain ⟨i,x1,x2,x3,x4⟩:=h.lk.op r hr ha
        by_cases c:i=j
        · subst c;refine ⟨i,x1,by rw [upf_eq];exact x2,by rw [upf_eq];exact x3,?_⟩;rw [upf_eq];show hasU (upf (T i).U (T i).n (uoF n U (T i).id key)) r.key ((T i).n+1)=true;rw [hasU_step,hasU_upf _ _ _ _ _ (Nat.le_refl _),x4];rfl
        · exact ⟨i,x1,by rw [upf_ne _ _ c];exact ⟨x2,x3,x4⟩⟩
    · intro i hi q hq
      by_cases c:i=j
      · subst c;rw [upf_eq] at hq ⊢;have hq':q<(T i).n+1:=hq;show (∃r ∈ rs',r.key=(upf (T i).U (T i).n (uoF n U (T i).id key) q).k∧(r.U 0).a=0∧(r.U 0).t=(T i).id)∧(upf (T i).U (T i).n (uoF n U (T i).id key) q).h=hasU (upf (T i).U (T i).n (uoF n U (T i).id key)) (upf (T i).U (T i).n (uoF n U (T i).id key) q).k q;rw [hasU_upf _ _ _ _ q (by omega)]
        by_cases e:q=(T i).n
        · subst e;rw [upf_eq,uo_key,uo_h];exact ⟨⟨_,hy,rfl,(wS_first _ _ _ _ _).1,(wS_first _ _ _ _ _).2⟩,hfo⟩
        · rw [upf_ne _ _ e];obtain ⟨⟨r,hr,y1,y2,y3⟩,y4⟩:=h.lk.ow i hi q (by omega);refine ⟨?_,y4⟩
          by_cases ek:r.key=key
          · exact ⟨_,hy,by show key=_;rw [←y1,ek],(wS_first _ _ _ _ _).1,(wS_first _ _ _ _ _).2⟩
          · exact ⟨r,(hin r).2 (.inr ⟨hr,ek⟩),y1,y2,y3⟩
      · rw [upf_ne _ _ c] at hq ⊢;obtain ⟨⟨r,hr,y1,y2,y3⟩,y4⟩:=h.lk.ow i hi q hq;refine ⟨⟨r,(hin r).2 (.inr ⟨hr,fun ek=>?_⟩),y1,y2,y3⟩,y4⟩;obtain ⟨hn,rfl⟩:=hone r hr ek;have:=mayB_open hm hn y2;have y3':(U 0).t=(T i).id:=y3;exact c (h.ids hi hj (by rw [←y3',this]))
theorem skL_ri {rs:List Rw} {y:Rw} {i:Nat} {f:Bool} (h:RiL rs) (hi:i≤rs.length) (hlt:∀x,(hx:x<i)→∀hx2:x<rs.length,rs[x].key<y.key) (hge:∀x,i≤x→∀hx2:x<rs.length,y.key≤rs[x].key) (hf:f=true↔∃hx:i<rs.length,rs[i].key=y.key) :
    RiL (skL f i y rs)∧∀r,r ∈ skL f i y rs↔r=y∨(r ∈ rs∧r.key≠y.key):=by
  have hp:=List.pairwise_iff_getElem.1 h
  have hgt:∀x,(if f then i+1 else i)≤x→∀hx2:x<rs.length,y.key<rs[x].key:=fun x hx hx2=>by
    cases hfb:f with
    | true=>
      rw [hfb] at hx;obtain ⟨hi2,e⟩:=hf.1 hfb;have hx':i+1≤x:=(by simpa using hx);have:=hp i x hi2 hx2 hx';omega
    | false=>
      rw [hfb] at hx;have hx':i≤x:=(by simpa using hx);have h1:=hge x hx' hx2
      by_cases c:x=i
      · subst c
        have:¬rs[x].key=y.key:=fun e=>by have:=hf.2 ⟨hx2,e⟩;rw [hfb] at this;cases this
        omega
      · have h2:=hge i (Nat.le_refl _) (by omega);have h3:=hp i x (by omega) hx2 (by omega);omega
  have hdm:∀r,r ∈ rs.drop (if f then i+1 else i)→y.key<r.key:=fun r hr=>by
    obtain ⟨q,hq,rfl⟩:=List.getElem_of_mem hr;rw [List.getElem_drop];exact hgt _ (by omega) _
  have htm:∀r,r ∈ rs.take i→r.key<y.key:=fun r hr=>by
    obtain ⟨q,hq,rfl⟩:=List.getElem_of_mem hr;rw [List.getElem_take];rw [List.length_take] at hq;exact hlt q (by omega) _
  constructor
  · unfold RiL skL;rw [List.pairwise_append,List.pairwise_cons];refine ⟨h.sublist (List.take_sublist _ _),⟨hdm,h.sublist (List.drop_sublist _ _)⟩,fun a ha b hb=>?_⟩;have h1:=htm a ha
    rcases List.mem_cons.1 hb with rfl | hb
    · exact h1
    · have:=hdm b hb;omega
  · intro r;unfold skL;rw [List.mem_append,List.mem_cons];constructor
    · rintro (h1 | rfl | h1)
      · exact .inr ⟨List.mem_of_mem_take h1,by have:=htm r h1;omega⟩
      · exact .inl rfl
      · exact .inr ⟨List.mem_of_mem_drop h1,by have:=hdm r h1;omega⟩
    · rintro (rfl | ⟨hr,hne⟩)
      · exact .inr (.inl rfl)
      · obtain ⟨q,hq,rfl⟩:=List.getElem_of_mem hr
        by_cases c:q<i
        · left;exact List.mem_take_iff_getElem.2 ⟨q,by omega,rfl⟩
        · right;right
          have hq2:(if f then i+1 else i)≤q:=by
            cases hfb:f with
            | true=>
              obtain ⟨hi2,e⟩:=hf.1 hfb
              have:q≠i:=fun c2=>by subst c2;exact hne e
              simp;omega
            | false=>simp;omega
          refine List.mem_drop_iff_getElem.2 ⟨q-(if f then i+1 else i),by omega,?_⟩
          congr 1
          omega
theorem ask_st {E:En} {id:Int} (h:askC E id=0):eF E=0∧∃j,j<E.p∧askP E id=(j:Int)∧(E.T j).id=id∧(E.T j).st=1:=by
  obtain ⟨h0,j,hj,hp,hid⟩:=ask_open h;refine ⟨h0,j,hj,hp,hid,?_⟩;have hp2:fT E.p E.T id=(j:Int):=(by unfold askP at hp;rwa [if_pos h] at hp);unfold askC at h;rw [if_pos h0,hp2,if_neg (by omega),Int.toNat_natCast] at h;split at h
  · assumption
  · cases h
theorem eF_bt {E:En} (h:btC E=0):eF (btE E)=0:=by
  unfold btE;rw [if_pos h];unfold btC at h;split at h
  · rename_i h0;split at h
    · cases h
    · rename_i hf;have hg:=eF_Gd h0;refine Gd_eF ?_;exact hg.begin (fun e=>hf (.inl e)) (fun e=>hf (.inr e))
  · rename_i h0;exact absurd h h0
theorem rwL_get {E:En} {n:Nat} {rs:List Rw} (h:n=rs.length):rwL ⟨E.nx,E.ck,E.p,E.T,n,fun i=>rs.getD i zRw⟩=rs:=by
  subst h;apply List.ext_getElem
  · simp [rwL]
  · intro i h1 h2;simp [rwL,h2]
theorem eF_ct {E:En} {id:Int} (h:ctC E id=0):eF (ctE E id)=0:=by
  unfold ctE;rw [if_pos h];unfold ctC at h;split at h
  · rename_i ha;obtain ⟨h0,j,hj,hp,hid,hst⟩:=ask_st ha;rw [hp,Int.toNat_natCast] at h ⊢;have hg:=eF_Gd h0;refine Gd_eF ?_;split
    · rename_i hn
      have hk:E.ck≠1000000:=fun e=>by rw [if_pos ⟨hn,e⟩] at h;cases h
      have hr:rwL (cmY E j)=(rwL E).map (fun r=>cmR r (E.T j).id (E.ck+1)):=by
        unfold rwL;rw [List.map_map];refine List.map_congr_left fun i hi=>?_;show cmk E.R (E.T j).id (E.ck+1) E.q i=_;have hi':i<E.q:=List.mem_range.1 hi;unfold cmk;rw [if_pos hi'];rfl
      rw [hr];exact hg.commit hj hst hk
    · rename_i hn;have hr:rwL (cmN E j)=rwL E:=rfl;rw [hr];exact hg.state hj hst (by omega) ⟨by omega,by omega⟩
  · rename_i ha;exact absurd h ha
theorem upf_two {α:Type} (f:Nat→α) (k:Nat) (a b:α):upf (upf f k a) k b=upf f k b:=by
  funext i
  by_cases c:i=k
  · subst c;rw [upf_eq,upf_eq]
  · rw [upf_ne _ _ c,upf_ne _ _ c,upf_ne _ _ c]
theorem rl_good {E:En} {j save:Nat} (h0:eF E=0) (hj:j<E.p) (hst:(E.T j).st=1) (hs:save≤(E.T j).n):eF (rlE E j save (E.T j).st)=0∧(save=0→eF (rlE E j save 3)=0):=by
  have hu:=(eF_Gd h0).un hj hst ((E.T j).n-save) (by omega);rw [show (E.T j).n-((E.T j).n-save)=save by omega] at hu;have hr:∀st,rwL (rlE E j save st)=unL (E.T j).id (E.T j).U (E.T j).n (rwL E) ((E.T j).n-save):=fun st=>rwL_get (E:=⟨E.nx,E.ck,E.p,upf E.T j ⟨(E.T j).id,(E.T j).am,st,(E.T j).dn,save,(E.T j).U⟩,0,fun _=>zRw⟩) rfl;refine ⟨Gd_eF ?_,fun e=>Gd_eF ?_⟩
  · rw [hr];exact hu
  · rw [hr];have h3:=hu.state (j:=j) (st:=3) (U:=(E.T j).U) hj (by rw [upf_eq];exact hst) (by rw [upf_eq];exact e) ⟨by omega,by omega⟩;rw [upf_eq,upf_two] at h3;rw [e] at h3 ⊢;exact h3
theorem eF_ab {E:En} {id:Int} (h:askC E id=0):eF (abE E id)=0:=by
  unfold abE;rw [if_pos h];obtain ⟨h0,j,hj,hp,hid,hst⟩:=ask_st h;rw [hp,Int.toNat_natCast];exact (rl_good h0 hj hst (Nat.zero_le _)).2 rfl
theorem pl_is {R:Nat→Rw} {key:Int}:∀(q:Nat),(∀j,j<q→∀i,i<j→(R i).key<(R j).key)→Pl q R key (plN R key q)
  | 0,_=>⟨Nat.le_refl _,fun x hx=>absurd hx (Nat.not_lt_zero _),fun x _ hx=>absurd hx (Nat.not_lt_zero _)⟩
  | q+1,h=>by
    rw [plN];split
    · rename_i hk;refine ⟨Nat.le_refl _,fun x hx=>?_,fun x h1 h2=>by omega⟩
      by_cases c:x=q
      · subst c;exact hk
      · have:=h q (Nat.lt_succ_self q) x (by omega);omega
    · rename_i hk;obtain ⟨h1,h2,h3⟩:=pl_is (R:=R) (key:=key) q fun j hj=>h j (by omega);refine ⟨by omega,h2,fun x hx hx2=>?_⟩
      by_cases c:x=q
      · subst c;omega
      · exact h3 x hx (by omega)
theorem eF_ww {E:En} {j:Nat} {key v:Int} {g:Bool} (h0:eF E=0) (hj:j<E.p) (hst:(E.T j).st=1) (hk:inB key 0 31=true) (hv:inB v 0 9999=true) (hg:g=true→v=0) (h:wwC E j key=0):eF (wwE E j key g v)=0:=by
  have hG:=eF_Gd h0
  have hgv:(g && v != 0)=false:=by
    cases g with
    | false=>rfl
    | true=>rw [hg rfl];rfl
  have hks:=keys_rise (eF_good h0).2.2.2;unfold wwE;rw [if_pos h]
  have hm:mayB (ckN E key) (ckU E key) (E.T j).am (E.T j).id=true:=by
    unfold wwC at h;split at h
    · assumption
    · cases h
  unfold wwC at h;rw [if_pos hm] at h
  have h60:(E.T j).n≠60:=fun e=>by rw [if_pos e] at h;cases h
  rw [if_neg h60] at h
  have hw:fob (ckN E key) (ckU E key) (E.T j).id=true∨ckN E key≠12:=by
    by_cases hf:fob (ckN E key) (ckU E key) (E.T j).id=true
    · exact .inl hf
    · rw [if_neg hf] at h
      exact .inr fun e=>by rw [if_pos e] at h;cases h
  have hold:(0<ckN E key∧(⟨key,ckN E key,ckU E key⟩:Rw) ∈ rwL E)∨(ckN E key=0∧∀r ∈ rwL E,r.key≠key):=by
    rcases fi_cases (fun k=>(E.R k).key == key) E.q with ⟨e1,e2⟩ | ⟨i,hi,e1,e2,-⟩
    · have e3:fR E.q E.R key=-1:=e1;right;refine ⟨by unfold ckN;rw [e3];rfl,fun r hr=>?_⟩;obtain ⟨i,hi,rfl⟩:=mem_rwL.1 hr;have:=e2 i hi
      simpa using this
    · have e3:fR E.q E.R key=(i:Int):=e1;have e4:(E.R i).key=key:=(by simpa using e2);have n1:ckN E key=(E.R i).n:=(by unfold ckN;rw [e3,if_pos (by omega),Int.toNat_natCast]);have n2:ckU E key=(E.R i).U:=(by unfold ckU;rw [e3,if_pos (by omega),Int.toNat_natCast]);left;rw [n1,n2,←e4];exact ⟨(hG.rg _ (mem_rwL.2 ⟨i,hi,rfl⟩)).2.1,mem_rwL.2 ⟨i,hi,rfl⟩⟩
  obtain ⟨p1,p2,p3⟩:=pl_is (R:=E.R) (key:=key) E.q hks;have hlen:(rwL E).length=E.q:=(by simp [rwL])
  have hget:∀x (hx:x<(rwL E).length),(rwL E)[x]=E.R x:=fun x hx=>by simp [rwL]
  have hs:=skL_ri (rs:=rwL E) (y:=⟨key,wwN E j key,wwS E j key g v⟩) (i:=plN E.R key E.q) (f:=plF E.q E.R key (plN E.R key E.q)) hG.ri (by omega) (fun x hx hx2=>by rw [hget];exact p2 x hx) (fun x hx hx2=>by rw [hget];exact p3 x hx (by omega)) (by
    unfold plF;rw [Bool.and_eq_true,decide_eq_true_eq,beq_iff_eq];constructor
    · rintro ⟨a1,a2⟩;exact ⟨by omega,by rw [hget];exact a2⟩
    · rintro ⟨a1,a2⟩;rw [hget] at a2;exact ⟨by omega,a2⟩)
  refine Gd_eF ?_
  have hr:rwL (wrG E j key (wwN E j key) (wwS E j key g v))=skL (plF E.q E.R key (plN E.R key E.q)) (plN E.R key E.q) ⟨key,wwN E j key,wwS E j key g v⟩ (rwL E):=by
    unfold wrG;exact rwL_get (E:=⟨E.nx,E.ck,E.p,upf E.T j ⟨(E.T j).id,(E.T j).am,(E.T j).st,(E.T j).dn,(E.T j).n+1,upf (E.T j).U (E.T j).n (uoF (ckN E key) (ckU E key) (E.T j).id key)⟩,0,fun _=>zRw⟩) rfl
  rw [hr];exact hG.write hj hst hk (inB_iff.1 hv) hgv hold hm hw h60 hs.1 hs.2
theorem eF_wc {E:En} {id key v:Int} {g:Bool} (hg:g=true→v=0) (h:wcC E id key v g=0):eF (wcE E id key v g)=0:=by
  unfold wcE;rw [if_pos h];unfold wcC at h;split at h
  · rename_i ha;obtain ⟨h0,j,hj,hp,hid,hst⟩:=ask_st ha;rw [hp,Int.toNat_natCast] at h ⊢;split at h
    · rename_i hk;split at h
      · rename_i hv;obtain ⟨e1,e2⟩:=cw_ww h0 hj (key:=key) hv hg;rw [e2 h];rw [e1] at h;split at h
        · cases h
        · exact eF_ww h0 hj hst hk hv hg h
      · cases h
    · cases h
  · rename_i ha;exact absurd h ha
end Go.Proofs.YtjdodbiphijjgaaGreat
