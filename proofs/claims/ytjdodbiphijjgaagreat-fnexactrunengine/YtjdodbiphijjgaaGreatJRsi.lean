import Derived.Test.YtjdodbiphijjgaaGreatJRsh
import Derived.Test.YtjdodbiphijjgaaGreatJRqb
import Derived.Test.YtjdodbiphijjgaaGreatJGg
namespace Go.Proofs.YtjdodbiphijjgaaGreat
open Go.RowKit Go.Deep Go.Shelf
set_option linter.unusedVariables false
set_option linter.unusedSimpArgs false
set_option maxRecDepth 20000
open Go.RowKit Go.Deep
theorem xs_at {E:En} {xs:List HRw} (h:xs.map HRw.t=rwL E) {i:Nat} {x:HRw} (hx:xs[i]? = some x):x.t=E.R i:=by
  have h1:(xs.map HRw.t)[i]? = some x.t:=(by rw [List.getElem?_map,hx];rfl);rw [h] at h1;have hi:i<E.q:=(by have:=(List.getElem?_eq_some_iff.1 h1).1;simpa [rwL] using this);simp only [rwL,List.getElem?_map,List.getElem?_range hi,Option.map_some,Option.some.injEq] at h1;exact h1.symm
theorem l5Writer_U (n:Nat) (R:Nat→Vr) (a:Option Addr) (cap:Nat) (id:Int) (w:World) (h:VersAt w a n R) :
    Calls Tryz.prog 113 #[.slice a n cap] w fun e w'=>e=.returned (.int .i64 (wrt n R))∧w'=w:=l5Writer_any n R a cap w h
theorem xs_rise {E:En} {xs:List HRw} (h:xs.map HRw.t=rwL E) (hs:∀j,j<E.q→∀i,i<j→(E.R i).key<(E.R j).key):RiRw xs:=by
  have hl:xs.length=E.q:=(by have:=congrArg List.length h;simpa [rwL] using this);refine List.pairwise_iff_getElem.2 fun i j hi hj hlt=>?_;have e1:=xs_at h (List.getElem?_eq_getElem hi);have e2:=xs_at h (List.getElem?_eq_getElem hj);unfold keyRw;rw [e1,e2];exact hs j (by omega) i hlt
theorem own_keepS {w w':World} {base n s:Nat} {e:TypeId} {v:Value} {xs:List Value} (h:w.ownsRow base e s v n xs) (hb:∀q,v.ownBlock=some q→w'.heap[q]? = w.heap[q]?):w'.ownsRow base e s v n xs:=by
  obtain ⟨h1,h2 | ⟨g,cap,cur,rfl,k1,k2,k3⟩⟩:=h
  · exact ⟨h1,.inl h2⟩
  · exact ⟨h1,.inr ⟨g,cap,cur,rfl,k1,(hb g rfl).trans k2,k3⟩⟩
theorem new_gt {q:Nat} {R:Nat→Rw} {key:Int} {p:Nat} (h:Pl q R key p) (hF:plF q R key p=false) (i:Nat) (hi:p≤i) (hq:i<q) (hs:∀j,j<q→∀i,i<j→(R i).key<(R j).key):key<(R i).key:=by
  have h1:=h.2.2 i hi hq
  by_cases e:(R i).key=key
  · exfalso
    by_cases ep:i=p
    · subst ep;unfold plF at hF;simp [hq,e] at hF
    · have h2:=h.2.2 p (Nat.le_refl _) (by omega);have h3:=hs i hq p (by omega);omega
  · omega
set_option maxHeartbeats 32000000 in
theorem l6Write_new (E:En) (a:Option Addr) (cap:Nat) (a':Option Addr) (cap':Nat) (j:Nat) (key v:Int) (g:Bool) (w:World) (h0:eF E=0) (hj:j<E.p) (hid:(E.T j).id≠0) (hF:plF E.q E.R key (plN E.R key E.q)=false) (h:EngAt w a a' E) :
    Calls Tryz.prog 63 #[.agg #[.int .i64 E.nx,.int .i64 E.ck,.slice a E.p cap,.slice a' E.q cap'],.int .i64 j,.int .i64 key,.bool g,.int .i64 v] w (ERes2 (wwC E j key) 0 (wwE E j key g v) w):=by
  have HID:Hid ((E.T j).id≠0):=hid;have HX:Hid (EngAt w a a' E):=h;have HSO:Hid (∀j,j<E.q→∀i,i<j→(E.R i).key<(E.R j).key):=keys_rise (eF_good h0).2.2.2;have HR12:Hid (∀i,i<E.q→(E.R i).n≤12):=rows12 h0;have HU60:Hid (∀i,i<E.p→(E.T i).n≤60):=undos60 h0;have hq32:=(eF_pq h0).2;have hp20:=(eF_pq h0).1;have hmo:Tryz.prog.follows .mixedOrders=true:=(by kernel_rfl);have hn60:=HU60.out j hj;have HPL:Hid (Pl E.q E.R key (plN E.R key E.q)):=pl_N HSO.out
  have HBX:Hid (∀o1 o2:Obj,o1=.cells #[.int .i64 E.nx,.int .i64 E.ck,.slice a E.p cap,.slice a' E.q cap'] 30→o2=.cells #[.int .i64 0,.int .i64 0,.int .i64 0,.int .i64 0,.slice none 0 0,.slice none 0 0] 32→
      Box4 ((w.alloc o1).alloc o2) w.heap.size (.int .i64 E.nx) (.int .i64 E.ck) (.slice a E.p cap) (.slice a' E.q cap')∧Box6 ((w.alloc o1).alloc o2) (w.heap.size+1) (.int .i64 0) (.int .i64 0) (.int .i64 0) (.int .i64 0) (.slice none 0 0) (.slice none 0 0)∧(∀i,((w.alloc o1).alloc o2).frozen? ⟨w.heap.size+1,i,none⟩=false)∧Below w.heap.size w ((w.alloc o1).alloc o2)∧((w.alloc o1).alloc o2).heap.size=w.heap.size+2):=by
    rintro o1 o2 rfl rfl;exact ⟨(Box4.new w _ _ _ _ _).alloc _,by simp [Box6,go_sem],fun i=>by simp [go_sem],((Below.refl _ _).alloc (Nat.le_refl _) _).alloc (by simp) _,by simp⟩
  clear h;go_enter Tryz.func63,Tryz.ntmps63;go_upto_region 1 with fail;obtain ⟨hb4,hb2,hbf,hbw,hbs⟩:=HBX.out _ _ rfl rfl;generalize ((w.alloc (.cells #[.int .i64 E.nx,.int .i64 E.ck,.slice a E.p cap,.slice a' E.q cap'] 30)).alloc (.cells #[.int .i64 0,.int .i64 0,.int .i64 0,.int .i64 0,.slice none 0 0,.slice none 0 0] 32))=w0 at *;have HB0:Hid (Below w.heap.size w w0):=hbw;have HA0:Hid (Box6 w0 (w.heap.size+1) (.int .i64 0) (.int .i64 0) (.int .i64 0) (.int .i64 0) (.slice none 0 0) (.slice none 0 0)∧∀i,w0.frozen? ⟨w.heap.size+1,i,none⟩=false):=⟨hb2,hbf⟩;have HZ0:Hid (w0.heap.size=w.heap.size+2):=hbs;obtain ⟨b0,b1,b2,b3⟩:=hb4;clear hb2 hbf hbw hbs HBX;go_wp2_with fail;refine (l6Copy_any E a cap a' cap' w0 hp20 hq32 HU60.out HR12.out (HX.out.below HB0.out)).mono ?_;rintro e w2 ⟨vt,vr,b0',M,rfl,hb2,hb0,hM,hgt,hgr⟩;obtain ⟨tb,vc,rfl,ht1,ht2,htf,ui,uc,ul,uh,hCT,huc,hul,hut,hOU,hput⟩:=hgt.putU j hj;obtain ⟨vb,vd,rfl,hvd,-⟩:=hgr.own;have hs2:=hb2.size;have hMz:M≤w2.heap.size:=hgt.1;have HA2:Hid (Box6 w2 (w.heap.size+1) (.int .i64 0) (.int .i64 0) (.int .i64 0) (.int .i64 0) (.slice none 0 0) (.slice none 0 0)∧∀i,w2.frozen? ⟨w.heap.size+1,i,none⟩=false):=⟨HA0.out.1.below hb2,fun i=>((bcell2 hb2).2 _ _ HA0.out.1.lt).trans (HA0.out.2 i)⟩;have HB2:Hid (Below w.heap.size w w2):=below_then HB0.out hb2;obtain ⟨xs,lxs,dxs,oxs,vxs,axs,cxs⟩:=hgr.list;have HXS:Hid (xs.map HRw.t=rwL E):=dxs;have HAX:Hid (ApRw xs):=axs;have HCX:Hid (∀x ∈ xs,CtRw w2 M w2.heap.size x):=fun x hx=>(cxs x hx).2;have HOX:Hid (w2.ownsRow M 173 2 (.slice vb E.q vd) E.q (hbRw xs)):=oxs;have HLX:Hid (xs.length=E.q):=lxs;have HVX:Hid (∀q,(Value.slice vb E.q vd).ownBlock=some q→q<w2.heap.size):=vxs;have HOU:Hid (OwnUC w2 ul uh ui uc (E.T j).n (E.T j).U∧(uh=0∨b0'≤ul∧uh≤M)∧(tb<ul∨uh≤tb)):=⟨hOU,hul,hut⟩
  have HBM:Hid (w.heap.size+2≤b0'∧b0'≤M∧M≤w2.heap.size∧b0'≤tb∧tb<M):=by
    have:=HZ0.out;exact ⟨by omega,hM,hMz,ht1,ht2⟩
  have HCT:Hid (CTx w2 tb (j*5) (E.T j) ui uc∧(∀i,w2.frozen? ⟨tb,i,none⟩=false)∧(E.T j).n≤uc):=⟨hCT,htf,huc⟩
  have HPT : Hid (∀ (w1 : World) (t : Tx) (a2 : Option Addr) (c2 lo hi : Nat), w2.heap.size ≤ w1.heap.size → (∀ x, b0' ≤ x → x < M → x ≠ tb → (x < ul ∨ uh ≤ x) → w1.heap[x]? = w2.heap[x]?) → (∀ o, (o < j * 5 ∨ j * 5 + 4 < o) → w1.cell? ⟨tb, o, none⟩ = w2.cell? ⟨tb, o, none⟩) →
        (∀i,w1.frozen? ⟨tb,i,none⟩=w2.frozen? ⟨tb,i,none⟩)→CTx w1 tb (j*5) t a2 c2→t.n≤c2→OwnU w1 lo hi a2 t.n t.U→((ul≤lo∧hi≤uh)∨M≤lo)→OwnTxP w1 (fun x=>(b0'≤x∧x<M)∨(M≤lo∧lo≤x∧x<hi)) (some ⟨tb,0,none⟩) E.p (upf E.T j t)):=hput
  clear hb2 hgt hgr hOU b0 b1 b2 b3 HA0 HB0 HZ0 hb0 hM hMz hput hul hut hCT ht1 ht2 htf huc dxs axs cxs oxs vxs lxs;go_upto_region 2 with fail;obtain ⟨W3,hW3⟩:∃x,x=w2.alloc (.cells #[.int .i64 E.nx,.int .i64 E.ck,.slice (some ⟨tb,0,none⟩) E.p vc,.slice vb E.q vd] 30):=⟨_,rfl⟩;have hb3:Below w2.heap.size w2 W3:=(by rw [hW3];exact below_new _ _);have hz3:W3.heap.size=w2.heap.size+1:=(by rw [hW3];exact World.size_alloc _ _);have hbo:Box4 W3 w2.heap.size (.int .i64 E.nx) (.int .i64 E.ck) (.slice (some ⟨tb,0,none⟩) E.p vc) (.slice vb E.q vd):=(by rw [hW3];exact Box4.new _ _ _ _ _ _);have hfo:∀i,W3.frozen? ⟨w2.heap.size,i,none⟩=false:=(by rw [hW3];exact fun i=>by simp [go_sem]);rw [←hW3];clear hW3;have HB3:Hid (Below w2.heap.size w2 W3):=hb3;have HW3:Hid (W3.heap.size=w2.heap.size+1):=hz3;have HBO:Hid (Box4 W3 w2.heap.size (.int .i64 E.nx) (.int .i64 E.ck) (.slice (some ⟨tb,0,none⟩) E.p vc) (.slice vb E.q vd)∧∀i,W3.frozen? ⟨w2.heap.size,i,none⟩=false):=⟨hbo,hfo⟩;have HR3:Hid (Box6 W3 (w.heap.size+1) (.int .i64 0) (.int .i64 0) (.int .i64 0) (.int .i64 0) (.slice none 0 0) (.slice none 0 0)∧∀i,W3.frozen? ⟨w.heap.size+1,i,none⟩=false):=⟨HA2.out.1.below hb3,fun i=>((bcell2 hb3).2 _ _ HA2.out.1.lt).trans (HA2.out.2 i)⟩;have HB03:Hid (Below w.heap.size w W3):=below_then HB2.out HB3.out;have HC3:Hid (CTx W3 tb (j*5) (E.T j) ui uc):=HCT.out.1.block (hb3.block _ (by have:=HBM.out;omega))
  have HHA:Hid (HAtRw W3 vb xs):=by
    obtain ⟨a9,c9,e9,-,h9⟩:=HAtRw.of_row HLX.out HOX.out;injection e9 with e9;subst e9;exact h9.below hb3
  have HRA:Hid (RwsAt W3 vb E.q E.R):=by
    rcases HHA.out with h1 | ⟨b,off,e,hl,hc⟩
    · left;rw [←HLX.out,h1];rfl
    · refine .inr ⟨b,off,e,hl,fun i hi=>?_⟩;obtain ⟨x,gi⟩:∃x,xs[i]? = some x:=⟨_,List.getElem?_eq_getElem (by rw [HLX.out];exact hi)⟩;have e2:E.R i=x.t:=(xs_at HXS.out gi).symm;rw [e2];have hx:=HCX.out x (List.mem_of_getElem? gi);exact ⟨_,_,hc i x gi,hx.2.2.at.below hb3,hx.2.1⟩
  obtain ⟨b0,b1,b2,b3⟩:=hbo;have hj1:(j:Int)<(E.p:Int):=(by omega);have hj0:(0:Int)≤(j:Int):=(by omega);clear hb3 hfo hz3;go_wp2_with fail;refine (l6Row_any E.q E.R w2.heap.size vb vd key _ (by omega) b3 HRA.out).mono ?_;rintro e w4 ⟨rfl,hw4⟩;obtain rfl:=hw4.symm;have HFF:Hid (plF E.q E.R key (plN E.R key E.q)=false):=hF
  have hfr:fR E.q E.R key=-1:=by
    rcases pl_fR HSO.out HPL.out with ⟨-,h9⟩ | ⟨h9,-,-⟩
    · exact h9
    · rw [hF] at h9;cases h9
  have HCK:Hid (ckN E key=0∧ckU E key=fun _=>zV):=by
    constructor
    · unfold ckN;rw [hfr];rfl
    · unfold ckU;rw [hfr];rfl
  rw [hfr];go_upto_region 7 with fail;obtain ⟨U5,hU5⟩:∃x,x=W3.alloc (.cells #[] 179):=⟨_,rfl⟩;have HB5:Hid (Below W3.heap.size W3 U5):=(by rw [hU5];exact below_new _ _);rw [←hU5];clear hU5 hfr hF;have HKV:Hid (VersAt W3 (some (⟨W3.heap.size,0,none⟩:Addr)) 0 (ckU E key)):=.inl rfl;clear b0 b1 b2 b3;obtain ⟨c0,c1,c2,c3,c4⟩:=HC3.out.block (HB5.out.block _ (by have:=HBM.out;have:=HW3.out;omega));go_upto_region 7 with fail;go_wp2_with fail;refine (l6View_any (E.T j) tb (j*5) ui uc _ (HC3.out.block (HB5.out.block _ (by have:=HBM.out;have:=HW3.out;omega)))).mono ?_;rintro e w6 ⟨rfl,hb6⟩;have HB6:Hid (Below W3.heap.size W3 w6):=below_then HB5.out hb6;clear hb6;go_wp2_with fail;refine (l5May_any 0 (ckU E key) (some ⟨W3.heap.size,0,none⟩) 0 (E.T j).am (E.T j).id _ (HKV.out.below HB6.out)).mono ?_;rintro e w7 ⟨rfl,hb7⟩;have HB7:Hid (Below W3.heap.size W3 w7):=below_then HB6.out hb7;clear hb7 HB5 HB6 c0 c1 c2 c3 c4;have hm0:mayB 0 (ckU E key) (E.T j).am (E.T j).id=true:=(by simp [mayB]);have HMY:Hid (mayB (ckN E key) (ckU E key) (E.T j).am (E.T j).id=true):=(by rw [Hid,HCK.out.1];exact hm0);rw [hm0];clear hm0;obtain ⟨c0,c1,c2,c3,c4⟩:=HC3.out.block (HB7.out.block _ (by have:=HBM.out;have:=HW3.out;omega))
  by_cases h60:(E.T j).n=60
  · have h60':(60:Int)≤((E.T j).n:Int):=by omega
    have HC9:Hid (wwC E j key=2):=(by show _=_;unfold wwC;rw [HMY.out,if_pos rfl,if_pos h60]);have HU9:Hid (Below w.heap.size w w7):=below_then HB03.out HB7.out;go_wp2_with fail;refine (l6Bad_any 2 _).mono ?_;rintro e w9 ⟨rfl,hb9⟩;have HB9:Hid (Below w.heap.size w w9):=below_then HU9.out hb9;obtain ⟨r0,r1,r2,r3,r4,r5⟩:=(HR3.out.1.below HB7.out).below hb9;have rf:∀i,w9.frozen? ⟨w.heap.size+1,i,none⟩=false:=fun i=>((bcell2 hb9).2 _ _ (HR3.out.1.below HB7.out).lt).trans (((bcell2 HB7.out).2 _ _ HR3.out.1.lt).trans (HR3.out.2 i))
    have HF:Hid (∀w7,Below w.heap.size w w7→ERes2 (wwC E j key) 0 (wwE E j key g v) w (.returned (.agg #[.int .i64 2,.int .i64 0,.int .i64 0,.int .i64 0,.slice none 0 0,.slice none 0 0])) w7):=fun w7 hb=>by
      rw [show wwE E j key g v=zEn from if_neg (by rw [HC9.out];decide),HC9.out];exact eres_bad2 hb
    clear hb9;go_wp2_with fail;refine bodyPost_ret (v:=.agg #[.int .i64 2,.int .i64 0,.int .i64 0,.int .i64 0,.slice none 0 0,.slice none 0 0]) (by simp [results,Tryz.results63,go_sem, *]) rfl ?_;refine HF.out _ ?_
    repeat (first | with_reducible exact HB9.out | with_reducible refine Below.setCell ?_ (by first | omega | (simp <;> omega)) _)
  have h60':¬(60:Int)≤((E.T j).n:Int):=(by omega);have HN60:Hid ((E.T j).n≠60):=h60;clear h60;go_upto_region 12 with fail;clear h60';obtain ⟨W8,hW8⟩:∃x,x=w7.alloc (.cells #[.int .i64 key,.bool false,.bool false,.int .i64 0] 176):=⟨_,rfl⟩;have HUB:Hid (Box4 W8 w7.heap.size (.int .i64 key) (.bool false) (.bool false) (.int .i64 0)∧∀i,W8.frozen? ⟨w7.heap.size,i,none⟩=false):=(by rw [hW8];exact ⟨Box4.new _ _ _ _ _ _,fun i=>by simp [go_sem]⟩);have HB8:Hid (Below W3.heap.size W3 W8):=(by rw [hW8];exact below_then HB7.out (below_new _ _));have HZ8:Hid (W8.heap.size=w7.heap.size+1∧W3.heap.size≤w7.heap.size):=(by rw [hW8];exact ⟨World.size_alloc _ _,HB7.out.size⟩);rw [←hW8];clear hW8 c0 c1 c2 c3 c4;have HC8:Hid (CTx W8 tb (j*5) (E.T j) ui uc):=HC3.out.block (HB8.out.block _ (by have:=HBM.out;have:=HW3.out;omega));have HKV8:Hid (VersAt W8 (some ⟨W3.heap.size,0,none⟩) 0 (ckU E key)):=HKV.out.below HB8.out;refine wp_region_E 999 (S:=fun u=>Below W8.heap.size W8 u) hmo ((Below.refl _ _).drew) (fun hS=>?_);obtain ⟨u0,hu0⟩:∃y,y=W8.drew:=⟨_,rfl⟩;rw [←hu0] at hS ⊢;clear hu0;refine wpAnyE_takeD (L:=999) (i:=0) (v:=.slice (some ⟨W3.heap.size,0,none⟩) 0 0) (some 50) rfl rfl (by kernel_rfl) (by kernel_rfl) (by kernel_rfl) (by kernel_rfl) (fun _ _ _ h=>h) (Or.inl ⟨by kernel_rfl,by intro u hSu;go_simp⟩) hS ?_
  try simp only [Act.put,List.setIfInBounds_toArray,List.set_cons_zero,List.set_cons_succ]
  refine wpAnyE_takeD (L:=999) (i:=2) (v:=.pointer (some ⟨tb,j*5,none⟩)) (some 52) rfl rfl (by kernel_rfl) (by kernel_rfl) (by kernel_rfl) (by kernel_rfl) (fun _ _ _ h=>h) (Or.inl ⟨by kernel_rfl,by intro u hSu;go_simp⟩) hS ?_
  try simp only [Act.put,List.setIfInBounds_toArray,List.set_cons_zero,List.set_cons_succ]
  refine wpAnyE_takeD (L:=999) (i:=3) (v:=.pointer (some ⟨tb,j*5,none⟩)) (some 53) rfl rfl (by kernel_rfl) (by kernel_rfl) (by kernel_rfl) (by kernel_rfl) (fun _ _ _ h=>h) (Or.inl ⟨by kernel_rfl,by intro u hSu;go_simp⟩) hS ?_
  try simp only [Act.put,List.setIfInBounds_toArray,List.set_cons_zero,List.set_cons_succ]
  refine wpAnyE_takeD (L:=999) (i:=4) (v:=.pointer (some ⟨tb,j*5,none⟩)) (some 54) rfl rfl (by kernel_rfl) (by kernel_rfl) (by kernel_rfl) (by kernel_rfl) (fun _ _ _ h=>h) (Or.inl ⟨by kernel_rfl,by intro u hSu;go_simp⟩) hS ?_
  try simp only [Act.put,List.setIfInBounds_toArray,List.set_cons_zero,List.set_cons_succ]
  refine wpAnyE_takeD (L:=999) (i:=5) (v:=.int .i64 (E.T j).id) (some 55) rfl rfl (by kernel_rfl) (by kernel_rfl) (by kernel_rfl) (by kernel_rfl) (fun _ _ _ h=>h) (Or.inl ⟨by kernel_rfl,by intro u hSu;obtain ⟨c0,c1,c2,c3,c4⟩:=HC8.out;have c9:=cell_below c0 hSu;go_simp⟩) hS ?_
  try simp only [Act.put,List.setIfInBounds_toArray,List.set_cons_zero,List.set_cons_succ]
  refine wpAnyE_ready (rs:=[1]) (by kernel_rfl) (by simp) ?_;refine AllReadyE.cons rfl (fun K9 hK=>?_) AllReadyE.nil;go_simp;refine (l5Writer_U 0 (ckU E key) (some ⟨W3.heap.size,0,none⟩) 0 (E.T j).id _ (HKV8.out.below hS)).mono ?_;rintro e u1 ⟨rfl,hu1⟩;obtain rfl:=hu1.symm;refine hK.out _ _ hS (fun hS9=>?_)
  try simp only [Act.put,List.setIfInBounds_toArray,List.set_cons_zero,List.set_cons_succ]
  clear hK K9 hS;have hS:=hS9;clear hS9;refine wpAnyE_ready (rs:=[6]) (by kernel_rfl) (by simp) ?_;refine AllReadyE.cons rfl (fun K9 hK=>?_) AllReadyE.nil;go_simp;refine hK.out _ _ hS (fun hS9=>?_)
  try simp only [Act.put,List.setIfInBounds_toArray,List.set_cons_zero,List.set_cons_succ]
  clear hK K9 hS;have HS9:Hid (Below W8.heap.size W8 u0):=hS9;clear hS9;refine wpAnyE_done (by kernel_rfl) ?_ _;go_simp;have HB9:Hid (Below W3.heap.size W3 u0):=below_then HB8.out HS9.out;have HU9:Hid (Box4 u0 w7.heap.size (.int .i64 key) (.bool false) (.bool false) (.int .i64 0)∧∀i,u0.frozen? ⟨w7.heap.size,i,none⟩=false):=⟨HUB.out.1.below HS9.out,fun i=>((bcell2 HS9.out).2 _ _ HUB.out.1.lt).trans (HUB.out.2 i)⟩;have HZ9:Hid (w7.heap.size+1≤u0.heap.size∧W3.heap.size≤w7.heap.size):=⟨by have:=HS9.out.size;have:=HZ8.out;omega,HZ8.out.2⟩;clear HS9 HC8 HKV8 HUB HB8 HZ8 HB7
  have hwe:(wrt 0 (ckU E key) == (E.T j).id)=false:=by
    have:=HID.out;simp [wrt];omega
  have HFOB:Hid (fob (ckN E key) (ckU E key) (E.T j).id=false):=(by rw [Hid,HCK.out.1];simp [fob])
  have HWT:Hid (wrt 0 (ckU E key)≠(E.T j).id):=by
    show _≠_;intro e;rw [e] at hwe;simp at hwe
  rw [hwe];clear hwe;obtain ⟨X,hX⟩:∃x,x=u0:=⟨_,rfl⟩;subst hX;obtain ⟨uo,huo⟩:∃u,u=uoF (ckN E key) (ckU E key) (E.T j).id key:=⟨_,rfl⟩;have HUO:Hid (uo=uoF (ckN E key) (ckU E key) (E.T j).id key):=huo;have huo2:uo=⟨key,false,false,0⟩:=(by rw [huo];unfold uoF;rw [HFOB.out];rfl);have HUX:Hid (Box4 X w7.heap.size (.int .i64 uo.k) (.bool uo.h) (.bool uo.g) (.int .i64 uo.v)):=(by rw [huo2];exact HU9.out.1);have HBX:Hid (Below W3.heap.size W3 X):=HB9;have HZ7:Hid (W3.heap.size≤w7.heap.size∧w7.heap.size+1≤X.heap.size):=⟨HZ9.out.2,HZ9.out.1⟩
  have HWC:Hid (wwC E j key=0):=by
    show _=_;unfold wwC;rw [HMY.out,if_pos rfl,if_neg HN60.out,HFOB.out,if_neg (by decide),HCK.out.1];rfl
  have HWN:Hid (wwN E j key=0+1∧wwS E j key g v=pxC (ckU E key) ⟨(E.T j).id,0,g,v⟩):=by
    constructor
    · unfold wwN;rw [HFOB.out,if_neg (by decide),HCK.out.1]
    · unfold wwS;rw [HFOB.out,if_neg (by decide)]
  clear huo huo2 HB9 HU9 HZ9;obtain ⟨c0,c1,c2,c3,c4⟩:=HC3.out.block (HBX.out.block _ (by have:=HBM.out;have:=HW3.out;omega));go_upto_region 14 with fail;go_wp2_with fail;refine (l5Push_newc 0 (ckU E key) (some ⟨W3.heap.size,0,none⟩) 0 (E.T j).id g v _ (by omega) HWT.out (HKV.out.below HBX.out)).mono ?_;rintro e X5 ⟨pa,pc,rfl,hpc,hb5,ho5⟩;have HX5:Hid (Below W3.heap.size W3 X5):=below_then HBX.out hb5;have HPC:Hid ((0+1)≤pc):=hpc;have HO5:Hid (Own4 X5 (X.heap.size+1) X5.heap.size pa (0+1) (pxC (ckU E key) ⟨(E.T j).id,0,g,v⟩)):=ho5;have HUX5:Hid (Box4 X5 w7.heap.size (.int .i64 uo.k) (.bool uo.h) (.bool uo.g) (.int .i64 uo.v)):=HUX.out.below hb5;have HZX:Hid (X.heap.size≤X5.heap.size∧W3.heap.size≤w7.heap.size∧w7.heap.size+1≤X.heap.size):=⟨hb5.size,HZ7.out.1,HZ7.out.2⟩;clear hb5 ho5 hpc c0 c1 c2 c3 c4;go_upto_region 17 with fail
  have HSB:Hid (∀u1,Below X5.heap.size X5 u1→u1.cell? ⟨tb,j*5+4,none⟩=some (.slice ui (E.T j).n uc)∧Box4 u1 w7.heap.size (.int .i64 uo.k) (.bool uo.h) (.bool uo.g) (.int .i64 uo.v)):=fun u1 hb=>by
    obtain ⟨c0,c1,c2,c3,c4⟩:=HC3.out.block (HX5.out.block _ (by have:=HBM.out;have:=HW3.out;omega));exact ⟨cell_below c4 hb,HUX5.out.below hb⟩
  refine wp_region_E 10 (S:=fun u1=>u1.cell? ⟨tb,j*5+4,none⟩=some (.slice ui (E.T j).n uc)∧Box4 u1 w7.heap.size (.int .i64 uo.k) (.bool uo.h) (.bool uo.g) (.int .i64 uo.v)) hmo (HSB.out _ ((Below.refl _ _).drew)) (fun hS=>?_);obtain ⟨y0,hy0⟩:∃y,y=X5.drew:=⟨_,rfl⟩;have HY0:Hid (Below X5.heap.size X5 y0):=(by rw [hy0];exact (Below.refl _ _).drew);rw [←hy0] at hS ⊢;clear hy0;refine wpAnyE_takeD (L:=10) (i:=0) (v:=.pointer (some ⟨tb,j*5,none⟩)) (some 82) rfl rfl (by kernel_rfl) (by kernel_rfl) (by kernel_rfl) (by kernel_rfl) (fun _ _ _ h=>h) (Or.inl ⟨by kernel_rfl,by intro u hSu;go_simp⟩) hS ?_
  try simp only [Act.put,List.setIfInBounds_toArray,List.set_cons_zero,List.set_cons_succ]
  refine wpAnyE_takeD (L:=10) (i:=1) (v:=.pointer (some ⟨tb,j*5,none⟩)) (some 83) rfl rfl (by kernel_rfl) (by kernel_rfl) (by kernel_rfl) (by kernel_rfl) (fun _ _ _ h=>h) (Or.inl ⟨by kernel_rfl,by intro u hSu;go_simp⟩) hS ?_
  try simp only [Act.put,List.setIfInBounds_toArray,List.set_cons_zero,List.set_cons_succ]
  refine wpAnyE_takeD (L:=10) (i:=2) (v:=.pointer (some ⟨tb,j*5,none⟩)) (some 84) rfl rfl (by kernel_rfl) (by kernel_rfl) (by kernel_rfl) (by kernel_rfl) (fun _ _ _ h=>h) (Or.inl ⟨by kernel_rfl,by intro u hSu;go_simp⟩) hS ?_
  try simp only [Act.put,List.setIfInBounds_toArray,List.set_cons_zero,List.set_cons_succ]
  refine wpAnyE_takeD (L:=10) (i:=3) (v:=.pointer (some ⟨tb,j*5+4,none⟩)) (some 85) rfl rfl (by kernel_rfl) (by kernel_rfl) (by kernel_rfl) (by kernel_rfl) (fun _ _ _ h=>h) (Or.inl ⟨by kernel_rfl,by intro u hSu;go_simp⟩) hS ?_
  try simp only [Act.put,List.setIfInBounds_toArray,List.set_cons_zero,List.set_cons_succ]
  refine wpAnyE_takeD (L:=10) (i:=4) (v:=.slice ui (E.T j).n uc) (some 86) rfl rfl (by kernel_rfl) (by kernel_rfl) (by kernel_rfl) (by kernel_rfl) (fun _ _ _ h=>h) (Or.inl ⟨by kernel_rfl,by intro u hSu;obtain ⟨d0,d1,d2,d3,d4⟩:=hSu;go_simp⟩) hS ?_
  try simp only [Act.put,List.setIfInBounds_toArray,List.set_cons_zero,List.set_cons_succ]
  refine wpAnyE_takeD (L:=10) (i:=5) (v:=.agg #[.int .i64 uo.k,.bool uo.h,.bool uo.g,.int .i64 uo.v]) (some 87) rfl rfl (by kernel_rfl) (by kernel_rfl) (by kernel_rfl) (by kernel_rfl) (fun _ _ _ h=>h) (Or.inl ⟨by kernel_rfl,by intro u hSu;obtain ⟨d0,d1,d2,d3,d4⟩:=hSu;go_simp⟩) hS ?_
  try simp only [Act.put,List.setIfInBounds_toArray,List.set_cons_zero,List.set_cons_succ]
  have HB6:Hid (Below W3.heap.size W3 (y0.alloc (.cells #[.int .i64 uo.k,.bool uo.h,.bool uo.g,.int .i64 uo.v] 176))):=below_then (below_then HX5.out HY0.out) (below_new _ _);refine wpAnyE_ready (rs:=[6]) (by kernel_rfl) (by simp) ?_;refine AllReadyE.cons rfl (fun K9 hK=>?_) AllReadyE.nil;go_simp;refine hK.out _ _ (HSB.out _ (below_then HY0.out (below_new _ _))) (fun hS9=>?_)
  try simp only [Act.put,List.setIfInBounds_toArray,List.set_cons_zero,List.set_cons_succ]
  clear hK K9 hS;have hS:=hS9;clear hS9;refine wpAnyE_ready (rs:=[7]) (by kernel_rfl) (by simp) ?_;refine AllReadyE.cons rfl (fun K9 hK=>?_) AllReadyE.nil;obtain ⟨i0,hi0,hz0,hz1,hz2⟩:=info_parts infoU;have hn59:(E.T j).n≤60:=HU60.out j hj;have HOW:(y0.alloc (.cells #[.int .i64 uo.k,.bool uo.h,.bool uo.g,.int .i64 uo.v] 176)).ownsRow 0 176 4 (.slice ui (E.T j).n uc) (E.T j).n (ub (uL (E.T j).U (E.T j).n)):=(((HOU.out.1.below (below_then HB3.out HB6.out)).wide (Nat.zero_le _) (Nat.le_refl _) (by have:=HOU.out.1.1;have:=(below_then HB3.out HB6.out).size;omega)).2.1);refine step_append_lies _ rfl (.tmp 86) (.tmp 88) 125 rfl 0 176 i0 _ 4 24 Tryz.underlying125 hi0 hz0 hz1 hz2 rfl (by decide) (.slice ui (E.T j).n uc) (E.T j).n (ub (uL (E.T j).U (E.T j).n)) rfl HOW ⟨y0.heap.size,0,none⟩ 1 1 (u4 uo) rfl rfl (fun q u hq=>?_) ?_ (by decide) (by unfold maxLen;omega) (by omega) (Nat.zero_le _) (y0.heap.size+1) (World.size_alloc _ _) ?_
  case refine_1=>
    rw [WideShapes.add_plain,Nat.zero_add];have hd:q<4:=(by have:=(List.getElem?_eq_some_iff.1 hq).1;simpa [u4] using this);have hd2:q=0∨q=1∨q=2∨q=3:=(by omega)
    rcases hd2 with rfl | rfl | rfl | rfl <;> (rw [←hq];simp [u4,go_sem])
  case refine_2=>exact fun u hu=>ub_one [uo] u (by simpa [ub] using hu)
  intro ug uk X7 how hg7 hl7 hlt7
  have HQ:Hid (∀q,(Value.slice ui (E.T j).n uc).ownBlock=some q→ul≤q∧q<uh∧b0'≤ul∧uh≤M):=fun q hq=>by
    have q1:=HOU.out.1.2.2 q hq;have q2:=(HOU.out.1.2.1.lt q hq).1;have q3:=HOU.out.2.1;exact ⟨q2,q1,by omega,by omega⟩
  have HZ6:Hid (W3.heap.size≤y0.heap.size∧X5.heap.size≤y0.heap.size):=⟨Nat.le_trans HX5.out.size HY0.out.size,HY0.out.size⟩;have HS7:Hid (y0.heap.size+1≤X7.heap.size):=(by have:=hg7.size;rw [World.size_alloc] at this;exact this)
  have HK7:Hid (∀x,x<y0.heap.size→(x<b0'∨M≤x∨x=tb∨x<ul∨uh≤x)→X7.heap[x]? = y0.heap[x]?):=fun x hx hd=>by
    refine (hg7.block x (by rw [World.size_alloc];omega) fun e=>?_).trans ((below_new y0 _).block x hx);have:=HQ.out x e.symm;have:=HOU.out.2.2;omega
  have hhow:X7.ownsRow 0 176 4 (.slice (some ⟨ug,0,none⟩) ((E.T j).n+1) uk) ((E.T j).n+1) (ub (uL (upf (E.T j).U (E.T j).n uo) ((E.T j).n+1))):=(by rw [uL_snoc,ub_app];simpa [ub] using how);have HHOW:Hid (X7.ownsRow 0 176 4 (.slice (some ⟨ug,0,none⟩) ((E.T j).n+1) uk) ((E.T j).n+1) (ub (uL (upf (E.T j).U (E.T j).n uo) ((E.T j).n+1)))):=hhow;clear hhow
  have HW37:Hid (Writes b0' M y0 X7):=by
    have hgs:=below_new y0 (.cells #[.int .i64 uo.k,.bool uo.h,.bool uo.g,.int .i64 uo.v] 176);refine ⟨hg7.os.trans hgs.os,hg7.tape.trans hgs.tape,hg7.output.trans hgs.output,by have:=hg7.size;have:=hgs.size;omega,fun x hx hd=>HK7.out x hx ?_⟩
    rcases hd with hd | hd
    · exact .inl hd
    · exact .inr (.inl hd)
  have HUG:Hid (((Value.slice ui (E.T j).n uc).ownBlock=some ug∨ug=y0.heap.size+1)∧ug<X7.heap.size):=⟨hl7,hlt7⟩;have ET:=HK7.out tb (by have:=HBM.out;have:=HW3.out;have:=HZ6.out;omega) (.inr (.inr (.inl rfl)));have hSY:=HSB.out _ HY0.out;have c47:X7.cell? ⟨tb,j*5+4,none⟩=some (.slice ui (E.T j).n uc):=(World.cell?_of_block (w:=y0) (a:=⟨tb,_,none⟩) ET).trans hSY.1;have f7:X7.frozen? ⟨tb,j*5+4,none⟩=false:=(World.frozen?_of_block (w:=y0) (a:=⟨tb,j*5+4,none⟩) ET).trans (((below_then HX5.out HY0.out).frozen (p:=⟨tb,j*5+4,none⟩) (by have:=HBM.out;have:=HW3.out;show tb<W3.heap.size;omega)).trans ((HB3.out.frozen (p:=⟨tb,j*5+4,none⟩) (by have:=HBM.out;show tb<w2.heap.size;omega)).trans (HCT.out.2.1 _)));have HSW:Hid (X7.cell? ⟨tb,j*5+4,none⟩=some (.slice ui (E.T j).n uc)∧Box4 X7 w7.heap.size (.int .i64 uo.k) (.bool uo.h) (.bool uo.g) (.int .i64 uo.v)):=⟨c47,hSY.2.writes HW37.out (by have:=HBM.out;have:=HZX.out;have:=HW3.out;omega)⟩;clear how hg7 hl7 hlt7 ET hSY HOW hi0 hz0 hz1 hz2;refine hK.out _ _ (HSW.out) (fun hS9=>?_)
  try simp only [Act.put,List.setIfInBounds_toArray,List.set_cons_zero,List.set_cons_succ]
  clear hK K9 hS;have hS:=hS9;clear hS9;refine wpAnyE_ready (rs:=[8]) (by kernel_rfl) (by simp) ?_;refine AllReadyE.cons rfl (fun K9 hK=>?_) AllReadyE.nil;go_simp;refine hK.out _ _ (hS) (fun hS9=>?_)
  try simp only [Act.put,List.setIfInBounds_toArray,List.set_cons_zero,List.set_cons_succ]
  clear hK K9 hS;have hS:=hS9;clear hS9;refine wpAnyE_takeD (L:=10) (i:=9) (v:=.pointer (some ⟨tb,j*5+4,none⟩)) (some 91) rfl rfl (by kernel_rfl) (by kernel_rfl) (by kernel_rfl) (by kernel_rfl) (fun _ _ _ h=>h) (Or.inl ⟨by kernel_rfl,by intro u hSu;go_simp⟩) hS ?_
  try simp only [Act.put,List.setIfInBounds_toArray,List.set_cons_zero,List.set_cons_succ]
  refine wpAnyE_ready (rs:=[10]) (by kernel_rfl) (by simp) ?_;refine AllReadyE.last rfl (fun K9 hK=>?_);go_simp;refine hK.out _ _ ?_
  try simp only [Act.put,List.setIfInBounds_toArray,List.set_cons_zero,List.set_cons_succ]
  clear hK K9 hS;refine wpAnyE_done (by kernel_rfl) ?_ _;go_simp;go_upto_region 18 with fail;obtain ⟨X8,hX8⟩:∃x,x=X7.setCell ⟨tb,j*5+4,none⟩ (.slice (some ⟨ug,0,none⟩) ((E.T j).n+1) uk):=⟨_,rfl⟩;rw [←hX8];have hbm:=HBM.out;have hw3:=HW3.out;have hz6:=HZ6.out;have hs7:=HS7.out;have hug:=HUG.out;have hzx:=HZX.out;have hz8:X8.heap.size=X7.heap.size:=(by rw [hX8];simp [World.setCell]);have hw78:Writes tb (tb+1) X7 X8:=(by rw [hX8];exact Writes.setCell (Writes.refl _ _ _) (p:=⟨tb,_,none⟩) (Nat.le_refl _) (Nat.lt_succ_self _) _);have HW38:Hid (Writes b0' M y0 X8):=⟨hw78.os.trans HW37.out.os,hw78.tape.trans HW37.out.tape,hw78.output.trans HW37.out.output,Nat.le_trans HW37.out.size hw78.size,fun x hx hd=>(hw78.block x (by have:=HW37.out.size;omega) (by omega)).trans (HW37.out.block x hx hd)⟩;have HY3:Hid (Below W3.heap.size W3 y0):=below_then HX5.out HY0.out;have HTB:Hid (∀o,X7.cell? ⟨tb,o,none⟩=w2.cell? ⟨tb,o,none⟩):=fun o=>(World.cell?_of_block (w:=y0) (a:=⟨tb,o,none⟩) (HK7.out tb (by omega) (.inr (.inr (.inl rfl))))).trans ((World.cell?_of_block (w:=W3) (a:=⟨tb,o,none⟩) (HY3.out.block tb (by omega))).trans (World.cell?_of_block (w:=w2) (a:=⟨tb,o,none⟩) (HB3.out.block tb (by omega))));have HTF:Hid (∀o,X7.frozen? ⟨tb,o,none⟩=w2.frozen? ⟨tb,o,none⟩):=fun o=>(World.frozen?_of_block (w:=y0) (a:=⟨tb,o,none⟩) (HK7.out tb (by omega) (.inr (.inr (.inl rfl))))).trans ((World.frozen?_of_block (w:=W3) (a:=⟨tb,o,none⟩) (HY3.out.block tb (by omega))).trans (World.frozen?_of_block (w:=w2) (a:=⟨tb,o,none⟩) (HB3.out.block tb (by omega))))
  have HUGT:Hid (ug≠tb∧(M≤ug∨(ul≤ug∧ug<uh∧b0'≤ul∧uh≤M))∧(ug<M∨ug=y0.heap.size+1)∧b0'≤ug):=by
    rcases hug.1 with h | h
    · have q:=HQ.out ug h;have q2:=HOU.out.2.2;exact ⟨by omega,.inr q,by omega,by omega⟩
    · exact ⟨by omega,.inl (by omega),.inr h,by omega⟩
  have HUO8:Hid (OwnU X8 ug (ug+1) (some ⟨ug,0,none⟩) ((E.T j).n+1) (upf (E.T j).U (E.T j).n uo)):=by
    have h1:=(ownU_of_row (uL_len _ _) HHOW.out).congr (fun i hi=>uL_getD hi);obtain ⟨h2,h3 | ⟨b,off,e9,h4,h5,h6⟩⟩:=h1
    · exact absurd h3 (by omega)
    · injection e9 with e9;injection e9 with e9 e10;subst e9;subst e10;exact ⟨by rw [hz8];omega,.inr ⟨_,_,rfl,Nat.le_refl _,Nat.lt_succ_self _,rowU_block h6 (hw78.block _ h5 (by have:=HUGT.out.1;omega))⟩⟩
  have HT8:Hid (OwnTxP X8 (fun x=>(b0'≤x∧x<M)∨(M≤ug∧ug≤x∧x<ug+1)) (some ⟨tb,0,none⟩) E.p (upf E.T j ⟨(E.T j).id,(E.T j).am,(E.T j).st,(E.T j).dn,(E.T j).n+1,upf (E.T j).U (E.T j).n uo⟩)):=by
    obtain ⟨d0,d1,d2,d3,d4⟩:=HCT.out.1
    have g:∀o,o≠j*5+4→X8.cell? ⟨tb,o,none⟩=w2.cell? ⟨tb,o,none⟩:=fun o ho=>by rw [hX8,setO (Ne.symm ho)];exact HTB.out o
    refine HPT.out X8 ⟨(E.T j).id,(E.T j).am,(E.T j).st,(E.T j).dn,(E.T j).n+1,upf (E.T j).U (E.T j).n uo⟩ (some ⟨ug,0,none⟩) uk ug (ug+1) (by omega) (fun x x1 x2 x3 x4=>?_) (fun o ho=>g o (by omega)) (fun i=>by rw [hX8,World.frozen?_setCell];exact HTF.out i) ⟨(g _ (by omega)).trans d0,(g _ (by omega)).trans d1,(g _ (by omega)).trans d2,(g _ (by omega)).trans d3,by rw [hX8];exact World.cell?_setCell_same _ _ _ ((HTB.out _).trans d4)⟩ ?_ HUO8.out ?_
    · exact (hw78.block x (by omega) (by omega)).trans ((HK7.out x (by omega) (.inr (.inr (.inr x4)))).trans ((HY3.out.block x (by omega)).trans (HB3.out.block x (by omega))))
    · obtain ⟨a9,c9,e9,h9⟩:=row_sliceU HHOW.out;injection e9 with _ _ e9;subst e9;exact h9
    · have:=HUGT.out.2.1;omega
  have HBO8:Hid (Box4 X8 w2.heap.size (.int .i64 E.nx) (.int .i64 E.ck) (.slice (some ⟨tb,0,none⟩) E.p vc) (.slice vb E.q vd)∧∀i,X8.frozen? ⟨w2.heap.size,i,none⟩=false):=⟨(HBO.out.1.below HY3.out).writes HW38.out (by omega),fun i=>(World.frozen?_of_block (w:=y0) (a:=⟨w2.heap.size,i,none⟩) (HW38.out.block w2.heap.size (by omega) (.inr (by omega)))).trans (((bcell2 HY3.out).2 _ _ (by omega)).trans (HBO.out.2 i))⟩
  have HR8:Hid (Box6 X8 (w.heap.size+1) (.int .i64 0) (.int .i64 0) (.int .i64 0) (.int .i64 0) (.slice none 0 0) (.slice none 0 0)∧∀i,X8.frozen? ⟨w.heap.size+1,i,none⟩=false):=by
    have hs:=HB03.out.size;have hb2:=HB2.out.size;have e:=(HW38.out.block (w.heap.size+1) (by omega) (.inl (by omega))).trans (HY3.out.block (w.heap.size+1) (by omega));exact ⟨(HR3.out.1.below HY3.out).writes HW38.out (by omega),fun i=>(World.frozen?_of_block (w:=W3) (a:=⟨w.heap.size+1,i,none⟩) e).trans (HR3.out.2 i)⟩
  have HBW8:Hid (Below w.heap.size w X8):=Writes.below (below_then HB03.out HY3.out) HW38.out (by omega);have HCX8:Hid (∀x ∈ xs,CtRw X8 M w2.heap.size x):=fun x hx=>(((HCX.out x hx).below HB3.out).below HY3.out).writes HW38.out (.inl (Nat.le_refl _))
  have HAT8:Hid (HAtRw X8 vb xs):=by
    obtain ⟨a9,c9,e9,-,h9⟩:=HAtRw.of_row HLX.out (show X8.ownsRow M 173 2 (.slice vb E.q vd) E.q (hbRw xs) from own_keepS HOX.out fun q hq=>by
      have h8:=HVX.out q hq;have h9:=(HOX.out.lt q hq).1
      exact (HW38.out.block q (by omega) (.inr h9)).trans ((HY3.out.block q (by omega)).trans (HB3.out.block q h8)))
    injection e9 with e9;subst e9;exact h9
  have HO8:Hid (Own4 X8 (X.heap.size+1) X5.heap.size pa (0+1) (pxC (ckU E key) ⟨(E.T j).id,0,g,v⟩)):=(HO5.out.below HY0.out).writes HW38.out (.inr (by omega));have HZZ:Hid (w2.heap.size<X.heap.size+1∧X5.heap.size≤y0.heap.size+1∧ug<X8.heap.size∧w2.heap.size<X8.heap.size∧w2.heap.size<y0.heap.size+1):=⟨by omega,by omega,by omega,by omega,by omega⟩;obtain ⟨b0,b1,b2,b3⟩:=HBO8.out.1;clear hX8 hw78 HPT HTB HTF HUO8 HHOW HW37 HK7 HCT HOU HBO HA2 HX HX5 HY0 HB6 HO5 HSB HSW c47 f7 hz8 hs7 hz6 hug hw3 hbm hzx HQ HU60 HCX HOX HVX HUX5 HUX;go_wp2_with fail;refine (l6SetN_any w2.heap.size xs (⟨⟨key,0+1,(pxC (ckU E key) ⟨(E.T j).id,0,g,v⟩)⟩,pa,pc,X.heap.size+1,X5.heap.size⟩:HRw) (plN E.R key E.q) E.q vb vd X8 HLX.out hq32 b3 (HBO8.out.2 _) HAT8.out HPL.out.1 (fun i x hx hi=>by rw [xs_at HXS.out hx];exact HPL.out.2.1 i hi) (fun i x hx hi=>by rw [xs_at HXS.out hx];exact new_gt HPL.out HFF.out i hi (by have:=(List.getElem?_eq_some_iff.1 hx).1;rw [HLX.out] at this;exact this) HSO.out) (by show 0+1≠0;omega)).mono ?_;rintro e X9 ⟨rfl,va,u,hbu,hX9,hou⟩;obtain ⟨q2,hq2⟩:∃q,q=(skH false (plN E.R key E.q) (⟨⟨key,0+1,(pxC (ckU E key) ⟨(E.T j).id,0,g,v⟩)⟩,pa,pc,X.heap.size+1,X5.heap.size⟩:HRw) xs).length:=⟨_,rfl⟩;rw [←hq2] at hou;obtain ⟨a8,c8,rfl,-,-⟩:=HAtRw.of_row hq2.symm hou;obtain ⟨hql,P,Q,hP,hQ,hPQ,hT9,hR9⟩:=write_end (E:=E) (j:=j) (m:=0+1) (S:=(pxC (ckU E key) ⟨(E.T j).id,0,g,v⟩)) (N0:=w.heap.size+2) (b0':=b0') (M:=M) (N5:=y0.heap.size+1) HXS.out HFF.out.symm rfl rfl rfl HPC.out HAX.out HCX8.out HO8.out HBM.out.1 HBM.out.2.1 HBM.out.2.2.1 rfl HZZ.out.1 HZZ.out.2.1 HZZ.out.2.2.2.2 HUGT.out.2.2.1 HZZ.out.2.2.1 HUGT.out.2.2.2 HT8.out hbu hX9 hq2.symm hou HZZ.out.2.2.2.1;have hwB:Writes w2.heap.size (w2.heap.size+1) u X9:=(by rw [hX9];exact Writes.setCell (Writes.refl _ _ _) (p:=⟨w2.heap.size,3,none⟩) (Nat.le_refl _) (Nat.lt_succ_self _) _);have hs02:=HB2.out.size;have hbmm:=HBM.out;obtain ⟨g0,g1,g2,g3⟩:=HBO8.out.1.below hbu;have k0:X9.cell? ⟨w2.heap.size,0,none⟩=some (.int .i64 E.nx):=(by rw [hX9,setO (by omega)];exact g0);have k1:X9.cell? ⟨w2.heap.size,1,none⟩=some (.int .i64 E.ck):=(by rw [hX9,setO (by omega)];exact g1);have k2:X9.cell? ⟨w2.heap.size,2,none⟩=some (.slice (some ⟨tb,0,none⟩) E.p vc):=(by rw [hX9,setO (by omega)];exact g2);have k3:X9.cell? ⟨w2.heap.size,3,none⟩=some (.slice a8 q2 c8):=(by rw [hX9];exact World.cell?_setCell_same _ _ _ g3);obtain ⟨r0,r1,r2,r3,r4,r5⟩:=(HR8.out.1.below hbu).writes hwB (by omega)
  have rf:∀i,X9.frozen? ⟨w.heap.size+1,i,none⟩=false:=fun i=>by rw [hX9,World.frozen?_setCell];exact ((bcell2 hbu).2 _ _ HR8.out.1.lt).trans (HR8.out.2 i)
  have HF:Hid (∀w7,Writes (w.heap.size+1) (w.heap.size+2) X9 w7→w7.heap.size=X9.heap.size→ERes2 (wwC E j key) 0 (wwE E j key g v) w (.returned (.agg #[.int .i64 0,.int .i64 0,.int .i64 E.nx,.int .i64 E.ck,.slice (some ⟨tb,0,none⟩) E.p vc,.slice a8 q2 c8])) w7):=fun w7 hw hz=>by
    have hE:wwE E j key g v=wrG E j key (0+1) ((pxC (ckU E key) ⟨(E.T j).id,0,g,v⟩)):=(by unfold wwE;rw [if_pos HWC.out,HWN.out.1,HWN.out.2]);rw [hE,HWC.out];subst hql;refine ⟨_,vc,a8,c8,rfl,Writes.below (Writes.below (below_then HBW8.out hbu) hwB (by omega)) hw (by omega),Nat.le_refl _,P,Q,fun x hx=>by have:=hP x hx;omega,fun x hx=>by have:=hQ x hx;omega,hPQ,?_,?_⟩
    · have h9:=OwnTxP.keep hT9 hw.size fun x hx hl=>hw.block x hl (by have:=hP x hx;omega);rw [HUO.out] at h9;exact h9
    · exact OwnRwP.keep hR9 hw.size fun x hx hl=>hw.block x hl (by have:=hQ x hx;omega)
  clear hT9 hR9 hP hQ hPQ hql hwB hou hX9 g0 g1 g2 g3 hq2 b0 b1 b2 b3 hbu hs02 hbmm;go_wp2_with fail;refine bodyPost_ret (v:=.agg #[.int .i64 0,.int .i64 0,.int .i64 E.nx,.int .i64 E.ck,.slice (some ⟨tb,0,none⟩) E.p vc,.slice a8 q2 c8]) (by simp [results,Tryz.results63,go_sem, *]) rfl ?_;refine HF.out _ ?_ (by simp [World.setCell])
  repeat (first | with_reducible exact Writes.refl _ _ _ | with_reducible refine Writes.setCell ?_ (by first | omega | (simp <;> omega)) (by first | omega | (simp <;> omega)) _)
theorem chf_all {R:Nat→Vr}:∀m i,(∀j,i≤j→j<i+m→vR (R j)=true∧vF R j=false)→chf R m i=0
  | 0,_,_=>rfl
  | m+1,i,h=>by
    obtain ⟨h1,h2⟩:=h i (Nat.le_refl _) (by omega);rw [chf,if_neg (by rw [h1];simp),if_neg (by rw [h2];simp)];exact chf_all m (i+1) fun j h1 h2=>h j (by omega) (by omega)
theorem chF_of {n:Nat} {R:Nat→Vr} (hn:n≤12) (h:∀j,j<n→vR (R j)=true∧vF R j=false):chF n R=0:=by
  unfold chF;rw [if_neg (by omega)];exact chf_all n 0 fun j _ hj=>h j (by omega)
theorem ffz_of {f:Nat→Int}:∀m i,(∀j,i≤j→j<i+m→f j=0)→ffz f m i=0
  | 0,_,_=>rfl
  | m+1,i,h=>by
    rw [ffz,if_pos (h i (Nat.le_refl _) (by omega))];exact ffz_of m (i+1) fun j h1 h2=>h j (by omega) (by omega)
theorem usF_of {n:Nat} {U:Nat→Ud} (hn:n≤60) (h:∀j,j<n→uF (U j)=0):usF n U=0:=by
  unfold usF;rw [if_neg (by omega)];exact ffz_of n 0 fun j _ hj=>h j (by omega)
theorem usF_at {n:Nat} {U:Nat→Ud} (h:usF n U=0):∀j,j<n→uF (U j)=0:=by
  unfold usF at h;split at h
  · cases h
  · exact ffz_zero h
theorem tF_of {nx ck:Int} {T:Nat→Tx} {i:Nat} (h1:tIn nx ck (T i)=true) (h2:tB1 T i=false) (h3:tB2 (T i)=false) (h4:tB3 (T i)=false) (h5:usF (T i).n (T i).U=0):tF nx ck T i=0:=by
  unfold tF;rw [if_neg (by rw [h1];simp),if_neg (by rw [h2,h3,h4];simp)];exact h5
def RG (ck:Int) (r:Rw):Prop:=inB r.key 0 31=true∧0<r.n∧chF r.n r.U=0∧(r.U 0).a≤ck∧(1<r.n→(r.U 1).a≤ck)
structure Lk (p:Nat) (T:Nat→Tx) (rs:List Rw):Prop where
  op:∀r ∈ rs,(r.U 0).a=0→∃i,i<p∧(T i).id=(r.U 0).t∧(T i).st=1∧hasU (T i).U r.key (T i).n=true
  ow:∀i,i<p→∀j,j<(T i).n→(∃r ∈ rs,r.key=((T i).U j).k∧(r.U 0).a=0∧(r.U 0).t=(T i).id)∧((T i).U j).h=hasU (T i).U ((T i).U j).k j
structure Gd (nx ck:Int) (p:Nat) (T:Nat→Tx) (rs:List Rw):Prop where
  hnx:1≤nx∧nx≤999
  hck:0≤ck∧ck≤1000000
  hp:p≤20
  tx:∀i,i<p→tF nx ck T i=0
  rg:∀r ∈ rs,RG ck r
  ri:RiL rs
  lk:Lk p T rs
theorem rise_len:∀(rs:List Rw) (b:Int),RiL rs→(∀r ∈ rs,b≤r.key∧r.key≤31)→b≤32→(rs.length:Int)≤32-b
  | [],b,_,_,hb=>by simp;omega
  | r :: rs,b,h,hk,hb=>by
    have h1:=hk r (List.mem_cons_self ..);have h2:=List.pairwise_cons.1 h;have:=rise_len rs (r.key+1) h2.2 (fun x hx=>⟨by have:=h2.1 x hx;omega,(hk x (List.mem_cons_of_mem _ hx)).2⟩) (by omega);simp only [List.length_cons];omega
theorem Gd.len {nx ck:Int} {p:Nat} {T:Nat→Tx} {rs:List Rw} (h:Gd nx ck p T rs):rs.length≤32:=by
  have:=rise_len rs 0 h.ri (fun r hr=>inB_iff.1 (h.rg r hr).1) (by omega);omega
theorem mem_rwL {E:En} {r:Rw}:r ∈ rwL E↔∃i,i<E.q∧E.R i=r:=by
  unfold rwL;simp only [List.mem_map,List.mem_range]
theorem fT_self {p:Nat} {T:Nat→Tx} {i:Nat} (h:∀j,j<p→∀i,i<j→(T i).id<(T j).id) (hi:i<p):fT p T (T i).id=(i:Int):=by
  unfold fT
  rcases fi_cases (fun k=>(T k).id == (T i).id) p with ⟨-,h2⟩ | ⟨j,h1,h2,h3,-⟩
  · have:=h2 i hi;simp at this
  · rw [h2];have e:(T j).id=(T i).id:=(by simpa using h3)
    rcases Nat.lt_trichotomy i j with c | c | c
    · have:=h j h1 i c;omega
    · rw [c]
    · have:=h i hi j c;omega
theorem fR_here {p:Nat} {R:Nat→Rw} {i:Nat} (h:∀j,j<p→∀i,i<j→(R i).key<(R j).key) (hi:i<p):fR p R (R i).key=(i:Int):=by
  unfold fR
  rcases fi_cases (fun k=>(R k).key == (R i).key) p with ⟨-,h2⟩ | ⟨j,h1,h2,h3,-⟩
  · have:=h2 i hi;simp at this
  · rw [h2];have e:(R j).key=(R i).key:=(by simpa using h3)
    rcases Nat.lt_trichotomy i j with c | c | c
    · have:=h j h1 i c;omega
    · rw [c]
    · have:=h i hi j c;omega
theorem eF_Gd {E:En} (h:eF E=0):Gd E.nx E.ck E.p E.T (rwL E):=by
  obtain ⟨h1,h2,h3,h4⟩:=eF_good h;have hk:=keys_rise h4;refine ⟨h1,h2,(eF_pq h).1,h3,fun r hr=>?_,?_,?_⟩
  · obtain ⟨i,hi,rfl⟩:=mem_rwL.1 hr;obtain ⟨k1,k2,k3,k4⟩:=rF_good (h4 i hi);simp only [Bool.or_eq_false_iff] at k4;unfold rB1 at k2;unfold rB2 at k4;simp at k2 k4;exact ⟨k1,by omega,k3,by omega,fun hn=>by have:=k4.1.2 hn;omega⟩
  · refine List.pairwise_map.2 (List.pairwise_iff_getElem.2 fun a b ha hb hab=>?_);simp only [List.getElem_range];simp only [List.length_range] at hb;exact hk b hb a hab
  · constructor
    · intro r hr ha;obtain ⟨i,hi,rfl⟩:=mem_rwL.1 hr;obtain ⟨k1,k2,k3,k4⟩:=rF_good (h4 i hi);simp only [Bool.or_eq_false_iff] at k4;have hop:opB E.p E.T (E.R i)=true:=(by simpa using k4.2);have hn:0<(E.R i).n:=(by unfold rB1 at k2;simp at k2;omega);have hw:wrt (E.R i).n (E.R i).U=((E.R i).U 0).t:=(by unfold wrt;rw [if_pos ⟨hn,ha⟩])
      have ht1:1≤((E.R i).U 0).t:=by
        have:=((chF_good k3).2 0 hn).1;unfold vR at this;simp only [Bool.and_eq_true] at this;exact (inB_iff.1 this.1.1).1
      unfold opB at hop;rw [hw] at hop;have hz:(((E.R i).U 0).t == 0)=false:=(by simp;omega);rw [hz,Bool.false_or] at hop;simp only [Bool.and_eq_true,decide_eq_true_eq,beq_iff_eq] at hop
      rcases fi_cases (fun k=>(E.T k).id == ((E.R i).U 0).t) E.p with ⟨e,-⟩ | ⟨x,e1,e2,e3,-⟩
      · have:fT E.p E.T ((E.R i).U 0).t=-1:=e;omega
      · have e4:fT E.p E.T ((E.R i).U 0).t=(x:Int):=e2;rw [e4,Int.toNat_natCast] at hop;exact ⟨x,e1,by simpa using e3,hop.1.2,hop.2⟩
    · intro i hi j hj
      have hw:allb (fun i=>owB E.q E.R (E.T i)) E.p=true:=by
        unfold eF at h;split at h
        · cases h
        · split at h
          · cases h
          · split at h
            · split at h
              · split at h
                · assumption
                · cases h
              · rename_i x;exact absurd h x
            · rename_i x;exact absurd h x
      have h5:=(allb_iff _ _).1 ((allb_iff _ _).1 hw i hi) j hj;unfold oB at h5;simp only [Bool.and_eq_true,decide_eq_true_eq,beq_iff_eq] at h5;obtain ⟨⟨h6,h7⟩,h8⟩:=h5
      rcases fi_cases (fun k=>(E.R k).key == ((E.T i).U j).k) E.q with ⟨e,-⟩ | ⟨x,e1,e2,e3,-⟩
      · have:fR E.q E.R ((E.T i).U j).k=-1:=e;omega
      · have e4:fR E.q E.R ((E.T i).U j).k=(x:Int):=e2;rw [e4,Int.toNat_natCast] at h7;have hid:=id_pos (h3 i hi);unfold wrt at h7;split at h7
        · rename_i h9;exact ⟨⟨E.R x,mem_rwL.2 ⟨x,e1,rfl⟩,by simpa using e3,h9.2,h7⟩,h8⟩
        · omega
theorem Gd_eF {E:En} (h:Gd E.nx E.ck E.p E.T (rwL E)):eF E=0:=by
  have hq:E.q≤32:=(by have:=h.len;simpa [rwL] using this)
  have hk:∀j,j<E.q→∀i,i<j→(E.R i).key<(E.R j).key:=fun j hj i hi=>by
    have h9:=h.ri;unfold RiL rwL at h9;rw [List.pairwise_map] at h9;have:=List.pairwise_iff_getElem.1 h9 i j (by simp;omega) (by simpa using hj) hi
    simpa using this
  have hid:=ids_rise h.tx;unfold eF
  have hz:¬(inB E.nx 1 999=false∨inB E.ck 0 1000000=false):=by
    rintro (e | e)
    · rw [inB_iff.2 h.hnx] at e;cases e
    · rw [inB_iff.2 h.hck] at e;cases e
  rw [if_neg hz,if_neg (by have:=h.hp;omega)];rw [if_pos (ffz_of E.p 0 fun i _ hi=>h.tx i (by omega))]
  have hr:ffz (rF E.ck E.p E.T E.R) E.q 0=0:=ffz_of E.q 0 fun i _ hi=>by
    have hi':i<E.q:=(by omega);have hm:E.R i ∈ rwL E:=mem_rwL.2 ⟨i,hi',rfl⟩;obtain ⟨k1,k2,k3,k4,k5⟩:=h.rg _ hm;unfold rF
    have hb1:rB1 E.R i=false:=by
      unfold rB1;simp only [Bool.or_eq_false_iff,Bool.and_eq_false_iff,decide_eq_false_iff_not,beq_eq_false_iff_ne];refine ⟨?_,by omega⟩
      by_cases e:0<i
      · right;have:=hk i hi' (i-1) (by omega);omega
      · left;omega
    have hb2:rB2 E.ck (E.R i)=false:=by
      unfold rB2;simp only [Bool.or_eq_false_iff,Bool.and_eq_false_iff,decide_eq_false_iff_not];refine ⟨by omega,?_⟩
      by_cases e:1<(E.R i).n
      · right;have:=k5 e;omega
      · left;exact e
    have hop:opB E.p E.T (E.R i)=true:=by
      unfold opB
      by_cases ha:((E.R i).U 0).a=0
      · obtain ⟨x,x1,x2,x3,x4⟩:=h.lk.op _ hm ha;have hw:wrt (E.R i).n (E.R i).U=(E.T x).id:=(by unfold wrt;rw [if_pos ⟨k2,ha⟩,x2]);rw [hw,fT_self hid x1,Int.toNat_natCast,x3,x4];simp
      · have hw:wrt (E.R i).n (E.R i).U=0:=by unfold wrt;rw [if_neg fun e=>ha e.2]
        rw [hw];simp
    rw [if_neg (by rw [k1];simp),if_neg (by rw [hb1];simp),if_pos k3,if_neg (by rw [hb2,hop];simp)]
  rw [if_pos hr];rw [if_pos];refine (allb_iff _ _).2 fun i hi=>(allb_iff _ _).2 fun j hj=>?_;obtain ⟨⟨r,hr,e1,e2,e3⟩,e4⟩:=h.lk.ow i hi j hj;obtain ⟨x,hx,rfl⟩:=mem_rwL.1 hr;have hf:fR E.q E.R ((E.T i).U j).k=(x:Int):=(by rw [←e1];exact fR_here hk hx);have hn:=(h.rg _ hr).2.1;have hw:wrt (E.R x).n (E.R x).U=(E.T i).id:=(by unfold wrt;rw [if_pos ⟨hn,e2⟩,e3]);unfold oB;rw [hf,Int.toNat_natCast,hw,e4];simp
end Go.Proofs.YtjdodbiphijjgaaGreat
