import Derived.Test.YtjdodbiphijjgaaGreatJRsa
import Derived.Test.YtjdodbiphijjgaaGreatJRle
import Derived.Test.YtjdodbiphijjgaaGreatJRsc
import Derived.Test.YtjdodbiphijjgaaGreatJVj
import Derived.Test.YtjdodbiphijjgaaGreatJWae
import Derived.Test.YtjdodbiphijjgaaGreatJVn
namespace Go.Proofs.YtjdodbiphijjgaaGreat
open Go.RowKit Go.Deep Go.Shelf
set_option linter.unusedVariables false
set_option linter.unusedSimpArgs false
set_option maxRecDepth 20000
open Go.RowKit Go.Deep
theorem uL_snoc (U:Nat→Ud) (n:Nat) (u:Ud):uL (upf U n u) (n+1)=uL U n ++ [u]:=by
  unfold uL;rw [List.range_succ,List.map_append]
  congr 1
  · exact List.map_congr_left fun i hi=>upf_ne _ _ (by have:=List.mem_range.1 hi;omega)
  · simp [upf_eq]
def WwA (E:En) (j:Nat) (key:Int) (m:Nat) (S:Nat→Vr) (lo hi:Nat) (w:World) (e:Ending) (w':World):Prop:=
  ∃(i:Nat) (a2:Option Addr) (c2:Nat) (a3:Option Addr) (c3:Nat),Pl E.q E.R key i∧e=.returned (.agg #[.int .i64 E.nx,.int .i64 E.ck,.slice a2 E.p c2,.slice a3 (skL (plF E.q E.R key i) i ⟨key,m,S⟩ (rwL E)).length c3])∧Below w.heap.size w w'∧
    ∃P1 P2:Nat→Prop,(∀x,P1 x→w.heap.size≤x)∧(∀x,P2 x→w.heap.size≤x∨(lo≤x∧x<hi))∧(∀x,P1 x→P2 x→False)∧
      OwnTxP w' P1 a2 E.p (upf E.T j ⟨(E.T j).id,(E.T j).am,(E.T j).st,(E.T j).dn,(E.T j).n+1,upf (E.T j).U (E.T j).n (uoF (ckN E key) (ckU E key) (E.T j).id key)⟩)∧
      OwnRwP w' P2 a3 (skL (plF E.q E.R key i) i ⟨key,m,S⟩ (rwL E)).length (fun x=>(skL (plF E.q E.R key i) i ⟨key,m,S⟩ (rwL E)).getD x zRw)
set_option maxHeartbeats 16000000 in
theorem withWrite_any (E:En) (a:Option Addr) (cap:Nat) (a':Option Addr) (cap':Nat) (j:Nat) (key:Int) (ai:Option Addr) (ci m:Nat) (S:Nat→Vr) (lo hi:Nat) (w:World) (h0:eF E=0) (hj:j<E.p) (h:EngAt w a a' E) (hch:Own4 w lo hi ai m S) (hmc:m≤ci) (hn60:(E.T j).n≠60) :
    Calls Tryz.prog 122 #[.agg #[.int .i64 E.nx,.int .i64 E.ck,.slice a E.p cap,.slice a' E.q cap'],.int .i64 j,.int .i64 key,.slice ai m ci] w (WwA E j key m S lo hi w):=by
  have HX:Hid (EngAt w a a' E):=h;have HCH:Hid (Own4 w lo hi ai m S):=hch;have HSO:Hid (∀j,j<E.q→∀i,i<j→(E.R i).key<(E.R j).key):=keys_rise (eF_good h0).2.2.2;have HR12:Hid (∀i,i<E.q→(E.R i).n≤12):=rows12 h0;have HU60:Hid (∀i,i<E.p→(E.T i).n≤60):=undos60 h0;have hq32:=(eF_pq h0).2;have hp20:=(eF_pq h0).1;have hmo:Tryz.prog.follows .mixedOrders=true:=(by kernel_rfl)
  have HBX:Hid (∀o1 o2:Obj,o1=.cells #[.int .i64 E.nx,.int .i64 E.ck,.slice a E.p cap,.slice a' E.q cap'] 30→o2=.cells #[.int .i64 0,.int .i64 0,.slice none 0 0,.slice none 0 0] 30→
      Box4 ((w.alloc o1).alloc o2) w.heap.size (.int .i64 E.nx) (.int .i64 E.ck) (.slice a E.p cap) (.slice a' E.q cap')∧Box4 ((w.alloc o1).alloc o2) (w.heap.size+1) (.int .i64 0) (.int .i64 0) (.slice none 0 0) (.slice none 0 0)∧(∀i,((w.alloc o1).alloc o2).frozen? ⟨w.heap.size+1,i,none⟩=false)∧Below w.heap.size w ((w.alloc o1).alloc o2)∧((w.alloc o1).alloc o2).heap.size=w.heap.size+2):=by
    rintro o1 o2 rfl rfl;exact ⟨(Box4.new w _ _ _ _ _).alloc _,by simp [Box4,go_sem],fun i=>by simp [go_sem],((Below.refl _ _).alloc (Nat.le_refl _) _).alloc (by simp) _,by simp⟩
  clear h hch;go_enter Tryz.func122,Tryz.ntmps122;go_upto_region 1 with fail;obtain ⟨hb4,hb2,hbf,hbw,hbs⟩:=HBX.out _ _ rfl rfl;generalize ((w.alloc (.cells #[.int .i64 E.nx,.int .i64 E.ck,.slice a E.p cap,.slice a' E.q cap'] 30)).alloc (.cells #[.int .i64 0,.int .i64 0,.slice none 0 0,.slice none 0 0] 30))=w0 at *;have HB0:Hid (Below w.heap.size w w0):=hbw;have HA0:Hid (Box4 w0 (w.heap.size+1) (.int .i64 0) (.int .i64 0) (.slice none 0 0) (.slice none 0 0)∧∀i,w0.frozen? ⟨w.heap.size+1,i,none⟩=false):=⟨hb2,hbf⟩;have HE0:Hid (Box4 w0 w.heap.size (.int .i64 E.nx) (.int .i64 E.ck) (.slice a E.p cap) (.slice a' E.q cap')):=hb4;have HZ0:Hid (w0.heap.size=w.heap.size+2):=hbs;obtain ⟨b0,b1,b2,b3⟩:=hb4;clear hb2 hbf hbw hbs HBX;go_wp2_with fail;refine (copyEngine_any E a cap a' cap' w0 hp20 hq32 HU60.out HR12.out (HX.out.below HB0.out)).mono ?_;rintro e w2 ⟨v,v',b0',M,rfl,hb2,hb0,hM,hgt,hgr⟩;obtain ⟨tb,vc,rfl,ht1,ht2,htf,ui,uc,ul,uh,hCT,huc,hul,hut,hOU,hput⟩:=hgt.putU j hj;obtain ⟨vb,vd,rfl,hvd,-⟩:=hgr.own;have hs2:=hb2.size;have hMz:M≤w2.heap.size:=hgt.1;have HA2:Hid (Box4 w2 (w.heap.size+1) (.int .i64 0) (.int .i64 0) (.slice none 0 0) (.slice none 0 0)∧∀i,w2.frozen? ⟨w.heap.size+1,i,none⟩=false):=⟨HA0.out.1.below hb2,fun i=>((bcell2 hb2).2 _ _ HA0.out.1.lt).trans (HA0.out.2 i)⟩;have HE2:Hid (Box4 w2 w.heap.size (.int .i64 E.nx) (.int .i64 E.ck) (.slice a E.p cap) (.slice a' E.q cap')):=HE0.out.below hb2;have HB2:Hid (Below w.heap.size w w2):=below_then HB0.out hb2;have HGR:Hid (GrRw M w2.heap.size w2 (.slice vb E.q vd) E.q E.R):=hgr;have HOU:Hid (OwnUC w2 ul uh ui uc (E.T j).n (E.T j).U∧(uh=0∨b0'≤ul∧uh≤M)∧(tb<ul∨uh≤tb)):=⟨hOU,hul,hut⟩;have HPUT:=hput
  have HBM:Hid (w.heap.size+2≤b0'∧b0'≤M∧M≤w2.heap.size∧b0'≤tb∧tb<M):=by
    have:=HZ0.out;exact ⟨by omega,hM,hMz,ht1,ht2⟩
  have HCT:Hid (CTx w2 tb (j*5) (E.T j) ui uc∧(∀i,w2.frozen? ⟨tb,i,none⟩=false)∧(E.T j).n≤uc):=⟨hCT,htf,huc⟩
  have HPT : Hid (∀ (w1 : World) (t : Tx) (a2 : Option Addr) (c2 lo hi : Nat), w2.heap.size ≤ w1.heap.size → (∀ x, b0' ≤ x → x < M → x ≠ tb → (x < ul ∨ uh ≤ x) → w1.heap[x]? = w2.heap[x]?) → (∀ o, (o < j * 5 ∨ j * 5 + 4 < o) → w1.cell? ⟨tb, o, none⟩ = w2.cell? ⟨tb, o, none⟩) →
        (∀i,w1.frozen? ⟨tb,i,none⟩=w2.frozen? ⟨tb,i,none⟩)→CTx w1 tb (j*5) t a2 c2→t.n≤c2→OwnU w1 lo hi a2 t.n t.U→((ul≤lo∧hi≤uh)∨M≤lo)→OwnTxP w1 (fun x=>(b0'≤x∧x<M)∨(M≤lo∧lo≤x∧x<hi)) (some ⟨tb,0,none⟩) E.p (upf E.T j t)):=HPUT
  clear hb2 hgt hgr hOU b0 b1 b2 b3 HA0 HB0 HZ0 HE0 hb0 hM hMz hput HPUT hul hut hCT ht1 ht2 htf huc;go_upto_region 2 with fail;obtain ⟨W3,hW3⟩:∃x,x=w2.alloc (.cells #[.int .i64 E.nx,.int .i64 E.ck,.slice (some ⟨tb,0,none⟩) E.p vc,.slice vb E.q vd] 30):=⟨_,rfl⟩;have hb3:Below w2.heap.size w2 W3:=(by rw [hW3];exact below_new _ _);have hz3:W3.heap.size=w2.heap.size+1:=(by rw [hW3];exact World.size_alloc _ _);have hbo:Box4 W3 w2.heap.size (.int .i64 E.nx) (.int .i64 E.ck) (.slice (some ⟨tb,0,none⟩) E.p vc) (.slice vb E.q vd):=(by rw [hW3];exact Box4.new _ _ _ _ _ _);have hfo:∀i,W3.frozen? ⟨w2.heap.size,i,none⟩=false:=(by rw [hW3];exact fun i=>by simp [go_sem]);rw [←hW3];clear hW3;have HB3:Hid (Below w2.heap.size w2 W3):=hb3;have HW3:Hid (W3.heap.size=w2.heap.size+1):=hz3;have HBO:Hid (Box4 W3 w2.heap.size (.int .i64 E.nx) (.int .i64 E.ck) (.slice (some ⟨tb,0,none⟩) E.p vc) (.slice vb E.q vd)∧∀i,W3.frozen? ⟨w2.heap.size,i,none⟩=false):=⟨hbo,hfo⟩;obtain ⟨b0,b1,b2,b3⟩:=hbo;have hj1:(j:Int)<(E.p:Int):=(by omega);have hj0:(0:Int)≤(j:Int):=(by omega);clear hb3 hfo hz3;go_upto_region 3 with fail;obtain ⟨c0,c1,c2,c3,c4⟩:=HCT.out.1;obtain ⟨e0,e1,e2,e3⟩:=HE2.out;replace c0:=cell_below c0 HB3.out;replace c4:=cell_below c4 HB3.out;replace e0:=cell_below e0 HB3.out;replace e1:=cell_below e1 HB3.out;replace e2:=cell_below e2 HB3.out;replace e3:=cell_below e3 HB3.out;have HB03:Hid (Below w.heap.size w W3):=below_then HB2.out HB3.out;have HX3:Hid (EngAt W3 a a' E):=HX.out.below HB03.out;clear c1 c2 c3 b0 b1 b2 b3;have HSB:Hid (∀u1,Below W3.heap.size W3 u1→Box4 u1 w.heap.size (.int .i64 E.nx) (.int .i64 E.ck) (.slice a E.p cap) (.slice a' E.q cap')∧u1.cell? ⟨tb,j*5,none⟩=some (.int .i64 (E.T j).id)∧u1.cell? ⟨tb,j*5+4,none⟩=some (.slice ui (E.T j).n uc)):=fun u1 hb=>⟨⟨cell_below e0 hb,cell_below e1 hb,cell_below e2 hb,cell_below e3 hb⟩,cell_below c0 hb,cell_below c4 hb⟩;clear e0 e1 e2 e3 c0 c4;refine wp_region_E 18 (S:=fun u1=>Box4 u1 w.heap.size (.int .i64 E.nx) (.int .i64 E.ck) (.slice a E.p cap) (.slice a' E.q cap')∧u1.cell? ⟨tb,j*5,none⟩=some (.int .i64 (E.T j).id)∧u1.cell? ⟨tb,j*5+4,none⟩=some (.slice ui (E.T j).n uc)) hmo (HSB.out _ (drew1 _)) (fun hS=>?_);refine wpAnyE_takeD (L:=18) (i:=0) (v:=.pointer (some ⟨tb,j*5,none⟩)) (some 19) rfl rfl (by kernel_rfl) (by kernel_rfl) (by kernel_rfl) (by kernel_rfl) (fun _ _ _ h=>h) (Or.inl ⟨by kernel_rfl,by intro u hSu;obtain ⟨⟨e0,e1,e2,e3⟩,c0,c4⟩:=hSu;go_simp⟩) hS ?_
  try simp only [Act.put,List.setIfInBounds_toArray,List.set_cons_zero,List.set_cons_succ]
  refine wpAnyE_takeD (L:=18) (i:=1) (v:=.pointer (some ⟨tb,j*5,none⟩)) (some 20) rfl rfl (by kernel_rfl) (by kernel_rfl) (by kernel_rfl) (by kernel_rfl) (fun _ _ _ h=>h) (Or.inl ⟨by kernel_rfl,by intro u hSu;obtain ⟨⟨e0,e1,e2,e3⟩,c0,c4⟩:=hSu;go_simp⟩) hS ?_
  try simp only [Act.put,List.setIfInBounds_toArray,List.set_cons_zero,List.set_cons_succ]
  refine wpAnyE_takeD (L:=18) (i:=2) (v:=.pointer (some ⟨tb,j*5,none⟩)) (some 21) rfl rfl (by kernel_rfl) (by kernel_rfl) (by kernel_rfl) (by kernel_rfl) (fun _ _ _ h=>h) (Or.inl ⟨by kernel_rfl,by intro u hSu;obtain ⟨⟨e0,e1,e2,e3⟩,c0,c4⟩:=hSu;go_simp⟩) hS ?_
  try simp only [Act.put,List.setIfInBounds_toArray,List.set_cons_zero,List.set_cons_succ]
  refine wpAnyE_takeD (L:=18) (i:=3) (v:=.pointer (some ⟨tb,j*5+4,none⟩)) (some 22) rfl rfl (by kernel_rfl) (by kernel_rfl) (by kernel_rfl) (by kernel_rfl) (fun _ _ _ h=>h) (Or.inl ⟨by kernel_rfl,by intro u hSu;obtain ⟨⟨e0,e1,e2,e3⟩,c0,c4⟩:=hSu;go_simp⟩) hS ?_
  try simp only [Act.put,List.setIfInBounds_toArray,List.set_cons_zero,List.set_cons_succ]
  refine wpAnyE_takeD (L:=18) (i:=4) (v:=.slice ui (E.T j).n uc) (some 23) rfl rfl (by kernel_rfl) (by kernel_rfl) (by kernel_rfl) (by kernel_rfl) (fun _ _ _ h=>h) (Or.inl ⟨by kernel_rfl,by intro u hSu;obtain ⟨⟨e0,e1,e2,e3⟩,c0,c4⟩:=hSu;go_simp⟩) hS ?_
  try simp only [Act.put,List.setIfInBounds_toArray,List.set_cons_zero,List.set_cons_succ]
  refine wpAnyE_takeD (L:=18) (i:=5) (v:=.agg #[.int .i64 E.nx,.int .i64 E.ck,.slice a E.p cap,.slice a' E.q cap']) (some 24) rfl rfl (by kernel_rfl) (by kernel_rfl) (by kernel_rfl) (by kernel_rfl) (fun _ _ _ h=>h) (Or.inl ⟨by kernel_rfl,by intro u hSu;obtain ⟨⟨e0,e1,e2,e3⟩,c0,c4⟩:=hSu;go_simp⟩) hS ?_
  try simp only [Act.put,List.setIfInBounds_toArray,List.set_cons_zero,List.set_cons_succ]
  refine wpAnyE_takeD (L:=18) (i:=6) (v:=.int .i64 key) (some 25) rfl rfl (by kernel_rfl) (by kernel_rfl) (by kernel_rfl) (by kernel_rfl) (fun _ _ _ h=>h) (Or.inl ⟨by kernel_rfl,by intro u hSu;obtain ⟨⟨e0,e1,e2,e3⟩,c0,c4⟩:=hSu;go_simp⟩) hS ?_
  try simp only [Act.put,List.setIfInBounds_toArray,List.set_cons_zero,List.set_cons_succ]
  refine wpAnyE_takeD (L:=18) (i:=8) (v:=.pointer (some ⟨tb,j*5,none⟩)) (some 27) rfl rfl (by kernel_rfl) (by kernel_rfl) (by kernel_rfl) (by kernel_rfl) (fun _ _ _ h=>h) (Or.inl ⟨by kernel_rfl,by intro u hSu;obtain ⟨⟨e0,e1,e2,e3⟩,c0,c4⟩:=hSu;go_simp⟩) hS ?_
  try simp only [Act.put,List.setIfInBounds_toArray,List.set_cons_zero,List.set_cons_succ]
  refine wpAnyE_takeD (L:=18) (i:=9) (v:=.pointer (some ⟨tb,j*5,none⟩)) (some 28) rfl rfl (by kernel_rfl) (by kernel_rfl) (by kernel_rfl) (by kernel_rfl) (fun _ _ _ h=>h) (Or.inl ⟨by kernel_rfl,by intro u hSu;obtain ⟨⟨e0,e1,e2,e3⟩,c0,c4⟩:=hSu;go_simp⟩) hS ?_
  try simp only [Act.put,List.setIfInBounds_toArray,List.set_cons_zero,List.set_cons_succ]
  refine wpAnyE_takeD (L:=18) (i:=10) (v:=.pointer (some ⟨tb,j*5,none⟩)) (some 29) rfl rfl (by kernel_rfl) (by kernel_rfl) (by kernel_rfl) (by kernel_rfl) (fun _ _ _ h=>h) (Or.inl ⟨by kernel_rfl,by intro u hSu;obtain ⟨⟨e0,e1,e2,e3⟩,c0,c4⟩:=hSu;go_simp⟩) hS ?_
  try simp only [Act.put,List.setIfInBounds_toArray,List.set_cons_zero,List.set_cons_succ]
  refine wpAnyE_takeD (L:=18) (i:=11) (v:=.int .i64 (E.T j).id) (some 30) rfl rfl (by kernel_rfl) (by kernel_rfl) (by kernel_rfl) (by kernel_rfl) (fun _ _ _ h=>h) (Or.inl ⟨by kernel_rfl,by intro u hSu;obtain ⟨⟨e0,e1,e2,e3⟩,c0,c4⟩:=hSu;go_simp⟩) hS ?_
  try simp only [Act.put,List.setIfInBounds_toArray,List.set_cons_zero,List.set_cons_succ]
  refine wpAnyE_takeD (L:=18) (i:=12) (v:=.int .i64 key) (some 31) rfl rfl (by kernel_rfl) (by kernel_rfl) (by kernel_rfl) (by kernel_rfl) (fun _ _ _ h=>h) (Or.inl ⟨by kernel_rfl,by intro u hSu;obtain ⟨⟨e0,e1,e2,e3⟩,c0,c4⟩:=hSu;go_simp⟩) hS ?_
  try simp only [Act.put,List.setIfInBounds_toArray,List.set_cons_zero,List.set_cons_succ]
  refine wpAnyE_ready (rs:=[7]) (by kernel_rfl) (by simp) ?_;refine AllReadyE.cons rfl (fun K9 hK=>?_) AllReadyE.nil;go_simp;refine (chainK2_any E a cap a' cap' key W3 _ (drew1 _) hq32 HSO.out HX3.out).mono ?_;rintro e w4 ⟨ka,kc,rfl,hb4,hkv,hkc⟩;have HKV:Hid (VersAt W3 ka (ckN E key) (ckU E key)):=hkv;have HB4:Hid (Below W3.heap.size W3 w4):=below_then (drew1 _) hb4;clear hkv hkc hb4;refine hK.out _ _ (HSB.out _ HB4.out) (fun hS9=>?_)
  try simp only [Act.put,List.setIfInBounds_toArray,List.set_cons_zero,List.set_cons_succ]
  clear hK K9 hS;have hS:=hS9;clear hS9;refine wpAnyE_ready (rs:=[13]) (by kernel_rfl) (by simp) ?_;refine AllReadyE.cons rfl (fun K9 hK=>?_) AllReadyE.nil;go_simp;refine (undoOf_any (ckN E key) (ckU E key) ka kc (E.T j).id key _ (HKV.out.below HB4.out)).mono ?_;rintro e w5 ⟨rfl,hb5⟩;have HB5:Hid (Below W3.heap.size W3 w5):=below_then HB4.out hb5;clear hb5;refine hK.out _ _ (HSB.out _ HB5.out) (fun hS9=>?_)
  try simp only [Act.put,List.setIfInBounds_toArray,List.set_cons_zero,List.set_cons_succ]
  clear hK K9 hS;have hS:=hS9;clear hS9;obtain ⟨uo,huo⟩:∃u,u=uoF (ckN E key) (ckU E key) (E.T j).id key:=⟨_,rfl⟩;rw [←huo];have HUO:Hid (uo=uoF (ckN E key) (ckU E key) (E.T j).id key):=huo;clear huo;have HB6:Hid (Below W3.heap.size W3 (w5.alloc (.cells #[.int .i64 uo.k,.bool uo.h,.bool uo.g,.int .i64 uo.v] 176))):=below_then HB5.out (below_new _ _);refine wpAnyE_ready (rs:=[14]) (by kernel_rfl) (by simp) ?_;refine AllReadyE.cons rfl (fun K9 hK=>?_) AllReadyE.nil;go_simp;refine hK.out _ _ (HSB.out _ HB6.out) (fun hS9=>?_)
  try simp only [Act.put,List.setIfInBounds_toArray,List.set_cons_zero,List.set_cons_succ]
  clear hK K9 hS;have hS:=hS9;clear hS9;refine wpAnyE_ready (rs:=[15]) (by kernel_rfl) (by simp) ?_;refine AllReadyE.cons rfl (fun K9 hK=>?_) AllReadyE.nil;obtain ⟨i0,hi0,hz0,hz1,hz2⟩:=info_parts infoU;have hn59:(E.T j).n≤60:=HU60.out j hj;have HOW:(w5.alloc (.cells #[.int .i64 uo.k,.bool uo.h,.bool uo.g,.int .i64 uo.v] 176)).ownsRow 0 176 4 (.slice ui (E.T j).n uc) (E.T j).n (ub (uL (E.T j).U (E.T j).n)):=(((HOU.out.1.below (below_then HB3.out HB6.out)).wide (Nat.zero_le _) (Nat.le_refl _) (by have:=HOU.out.1.1;have:=(below_then HB3.out HB6.out).size;omega)).2.1);refine step_append_lies _ rfl (.tmp 23) (.tmp 33) 125 rfl 0 176 i0 _ 4 24 Tryz.underlying125 hi0 hz0 hz1 hz2 rfl (by decide) (.slice ui (E.T j).n uc) (E.T j).n (ub (uL (E.T j).U (E.T j).n)) rfl HOW ⟨w5.heap.size,0,none⟩ 1 1 (u4 uo) rfl rfl (fun q u hq=>?_) ?_ (by decide) (by unfold maxLen;omega) (by omega) (Nat.zero_le _) (w5.heap.size+1) (World.size_alloc _ _) ?_
  case refine_1=>
    rw [WideShapes.add_plain,Nat.zero_add];have hd:q<4:=(by have:=(List.getElem?_eq_some_iff.1 hq).1;simpa [u4] using this);have hd2:q=0∨q=1∨q=2∨q=3:=(by omega)
    rcases hd2 with rfl | rfl | rfl | rfl <;> (rw [←hq];simp [u4,go_sem])
  case refine_2=>exact fun u hu=>ub_one [uo] u (by simpa [ub] using hu)
  intro ug uk w7 how hg7 hl7 hlt7
  have HQ:Hid (∀q,(Value.slice ui (E.T j).n uc).ownBlock=some q→ul≤q∧q<uh∧b0'≤ul∧uh≤M):=fun q hq=>by
    have q1:=HOU.out.1.2.2 q hq;have q2:=(HOU.out.1.2.1.lt q hq).1;have q3:=HOU.out.2.1;exact ⟨q2,q1,by omega,by omega⟩
  have HZ6:Hid (W3.heap.size≤w5.heap.size):=HB5.out.size;have HS7:Hid (w5.heap.size+1≤w7.heap.size):=(by have:=hg7.size;rw [World.size_alloc] at this;exact this)
  have HK7:Hid (∀x,x<W3.heap.size→(x<b0'∨M≤x∨x=tb∨x<ul∨uh≤x)→w7.heap[x]? = W3.heap[x]?):=fun x hx hd=>by
    have z:=HZ6.out;refine (hg7.block x (by rw [World.size_alloc];omega) fun e=>?_).trans (HB6.out.block x hx);have:=HQ.out x e.symm;have:=HOU.out.2.2;omega
  have hhow:w7.ownsRow 0 176 4 (.slice (some ⟨ug,0,none⟩) ((E.T j).n+1) uk) ((E.T j).n+1) (ub (uL (upf (E.T j).U (E.T j).n uo) ((E.T j).n+1))):=(by rw [uL_snoc,ub_app];simpa [ub] using how);have HHOW:Hid (w7.ownsRow 0 176 4 (.slice (some ⟨ug,0,none⟩) ((E.T j).n+1) uk) ((E.T j).n+1) (ub (uL (upf (E.T j).U (E.T j).n uo) ((E.T j).n+1)))):=hhow;clear hhow
  have HW37:Hid (Writes b0' M W3 w7):=by
    refine ⟨hg7.os.trans HB6.out.os,hg7.tape.trans HB6.out.tape,hg7.output.trans HB6.out.output,by have:=hg7.size;have:=HB6.out.size;omega,fun x hx hd=>HK7.out x hx ?_⟩
    rcases hd with hd | hd
    · exact .inl hd
    · exact .inr (.inl hd)
  have HUG:Hid (((Value.slice ui (E.T j).n uc).ownBlock=some ug∨ug=w5.heap.size+1)∧ug<w7.heap.size):=⟨hl7,hlt7⟩;have hbm:=HBM.out;have hw3:=HW3.out;have ET:=HK7.out tb (by omega) (.inr (.inr (.inl rfl)));have EB:=HK7.out w.heap.size (by have:=HB2.out.size;omega) (.inl (by omega));have gT:∀o,w7.cell? ⟨tb,o,none⟩=W3.cell? ⟨tb,o,none⟩:=fun o=>World.cell?_of_block (w:=W3) (a:=⟨tb,o,none⟩) ET;have gB:∀o,w7.cell? ⟨w.heap.size,o,none⟩=W3.cell? ⟨w.heap.size,o,none⟩:=fun o=>World.cell?_of_block (w:=W3) (a:=⟨w.heap.size,o,none⟩) EB;have f7:w7.frozen? ⟨tb,j*5+4,none⟩=false:=(World.frozen?_of_block (w:=W3) (a:=⟨tb,j*5+4,none⟩) ET).trans ((HB3.out.frozen (p:=⟨tb,j*5+4,none⟩) (by show tb<w2.heap.size;omega)).trans (HCT.out.2.1 _));have HS3:=HSB.out W3 (Below.refl _ _);have c47:w7.cell? ⟨tb,j*5+4,none⟩=some (.slice ui (E.T j).n uc):=(gT _).trans HS3.2.2
  have HSW:Hid (Box4 w7 w.heap.size (.int .i64 E.nx) (.int .i64 E.ck) (.slice a E.p cap) (.slice a' E.q cap')∧w7.cell? ⟨tb,j*5,none⟩=some (.int .i64 (E.T j).id)∧w7.cell? ⟨tb,j*5+4,none⟩=some (.slice ui (E.T j).n uc)):=
    ⟨⟨(gB _).trans HS3.1.1,(gB _).trans HS3.1.2.1,(gB _).trans HS3.1.2.2.1,(gB _).trans HS3.1.2.2.2⟩,(gT _).trans HS3.2.1,c47⟩
  clear how hg7 hl7 hlt7 HS3 EB gB ET gT hw3 hbm HOW hi0 hz0 hz1 hz2;refine hK.out _ _ (HSW.out) (fun hS9=>?_)
  try simp only [Act.put,List.setIfInBounds_toArray,List.set_cons_zero,List.set_cons_succ]
  clear hK K9 hS;have hS:=hS9;clear hS9;refine wpAnyE_ready (rs:=[16]) (by kernel_rfl) (by simp) ?_;refine AllReadyE.cons rfl (fun K9 hK=>?_) AllReadyE.nil;go_simp;refine hK.out _ _ (hS) (fun hS9=>?_)
  try simp only [Act.put,List.setIfInBounds_toArray,List.set_cons_zero,List.set_cons_succ]
  clear hK K9 hS;have hS:=hS9;clear hS9;refine wpAnyE_takeD (L:=18) (i:=17) (v:=.pointer (some ⟨tb,j*5+4,none⟩)) (some 36) rfl rfl (by kernel_rfl) (by kernel_rfl) (by kernel_rfl) (by kernel_rfl) (fun _ _ _ h=>h) (Or.inl ⟨by kernel_rfl,by intro u hSu;go_simp⟩) hS ?_
  try simp only [Act.put,List.setIfInBounds_toArray,List.set_cons_zero,List.set_cons_succ]
  refine wpAnyE_ready (rs:=[18]) (by kernel_rfl) (by simp) ?_;refine AllReadyE.last rfl (fun K9 hK=>?_);go_simp;refine hK.out _ _ ?_
  try simp only [Act.put,List.setIfInBounds_toArray,List.set_cons_zero,List.set_cons_succ]
  clear hK K9 hS;refine wpAnyE_done (by kernel_rfl) ?_ _;go_simp;go_upto_region 4 with fail;obtain ⟨W8,hW8⟩:∃x,x=w7.setCell ⟨tb,j*5+4,none⟩ (.slice (some ⟨ug,0,none⟩) ((E.T j).n+1) uk):=⟨_,rfl⟩;rw [←hW8];have hbm:=HBM.out;have hw3:=HW3.out;have hz6:=HZ6.out;have hs7:=HS7.out;have hug:=HUG.out;have hz8:W8.heap.size=w7.heap.size:=(by rw [hW8];simp [World.setCell]);have hw78:Writes tb (tb+1) w7 W8:=(by rw [hW8];exact Writes.setCell (Writes.refl _ _ _) (p:=⟨tb,_,none⟩) (Nat.le_refl _) (Nat.lt_succ_self _) _);have HW38:Hid (Writes b0' M W3 W8):=⟨hw78.os.trans HW37.out.os,hw78.tape.trans HW37.out.tape,hw78.output.trans HW37.out.output,Nat.le_trans HW37.out.size hw78.size,fun x hx hd=>(hw78.block x (by have:=HW37.out.size;omega) (by omega)).trans (HW37.out.block x hx hd)⟩;have HTB:Hid (∀o,w7.cell? ⟨tb,o,none⟩=w2.cell? ⟨tb,o,none⟩):=fun o=>(World.cell?_of_block (w:=W3) (a:=⟨tb,o,none⟩) (HK7.out tb (by omega) (.inr (.inr (.inl rfl))))).trans (World.cell?_of_block (w:=w2) (a:=⟨tb,o,none⟩) (HB3.out.block tb (by omega)));have HTF:Hid (∀o,w7.frozen? ⟨tb,o,none⟩=w2.frozen? ⟨tb,o,none⟩):=fun o=>(World.frozen?_of_block (w:=W3) (a:=⟨tb,o,none⟩) (HK7.out tb (by omega) (.inr (.inr (.inl rfl))))).trans (World.frozen?_of_block (w:=w2) (a:=⟨tb,o,none⟩) (HB3.out.block tb (by omega)))
  have HUGT:Hid (ug≠tb∧(M≤ug∨(ul≤ug∧ug<uh∧b0'≤ul∧uh≤M))∧(M≤ug→w5.heap.size+1=ug)):=by
    rcases hug.1 with h | h
    · have q:=HQ.out ug h;have q2:=HOU.out.2.2;exact ⟨by omega,.inr q,fun h9=>by omega⟩
    · exact ⟨by omega,.inl (by omega),fun _=>h.symm⟩
  have HUO8:Hid (OwnU W8 ug (ug+1) (some ⟨ug,0,none⟩) ((E.T j).n+1) (upf (E.T j).U (E.T j).n uo)):=by
    have h1:=(ownU_of_row (uL_len _ _) HHOW.out).congr (fun i hi=>uL_getD hi);obtain ⟨h2,h3 | ⟨b,off,e9,h4,h5,h6⟩⟩:=h1
    · exact absurd h3 (by omega)
    · injection e9 with e9;injection e9 with e9 e10;subst e9;subst e10;exact ⟨by rw [hz8];omega,.inr ⟨_,_,rfl,Nat.le_refl _,Nat.lt_succ_self _,rowU_block h6 (hw78.block _ h5 (by have:=HUGT.out.1;omega))⟩⟩
  have HT8:Hid (OwnTxP W8 (fun x=>(b0'≤x∧x<M)∨(M≤ug∧ug≤x∧x<ug+1)) (some ⟨tb,0,none⟩) E.p (upf E.T j ⟨(E.T j).id,(E.T j).am,(E.T j).st,(E.T j).dn,(E.T j).n+1,upf (E.T j).U (E.T j).n uo⟩)):=by
    obtain ⟨d0,d1,d2,d3,d4⟩:=HCT.out.1
    have g:∀o,o≠j*5+4→W8.cell? ⟨tb,o,none⟩=w2.cell? ⟨tb,o,none⟩:=fun o ho=>by rw [hW8,setO (Ne.symm ho)];exact HTB.out o
    refine HPT.out W8 ⟨(E.T j).id,(E.T j).am,(E.T j).st,(E.T j).dn,(E.T j).n+1,upf (E.T j).U (E.T j).n uo⟩ (some ⟨ug,0,none⟩) uk ug (ug+1) (by omega) (fun x x1 x2 x3 x4=>?_) (fun o ho=>g o (by omega)) (fun i=>by rw [hW8,World.frozen?_setCell];exact HTF.out i) ⟨(g _ (by omega)).trans d0,(g _ (by omega)).trans d1,(g _ (by omega)).trans d2,(g _ (by omega)).trans d3,by rw [hW8];exact World.cell?_setCell_same _ _ _ ((HTB.out _).trans d4)⟩ ?_ HUO8.out ?_
    · exact (hw78.block x (by omega) (by omega)).trans ((HK7.out x (by omega) (.inr (.inr (.inr x4)))).trans (HB3.out.block x (by omega)))
    · obtain ⟨a9,c9,e9,h9⟩:=row_sliceU HHOW.out;injection e9 with _ _ e9;subst e9;exact h9
    · have:=HUGT.out.2.1;omega
  have HGR8:Hid (GrRw M w2.heap.size W8 (.slice vb E.q vd) E.q E.R):=(HGR.out.below HB3.out).writes HW38.out (.inl (Nat.le_refl _));have HBO8:Hid (Box4 W8 w2.heap.size (.int .i64 E.nx) (.int .i64 E.ck) (.slice (some ⟨tb,0,none⟩) E.p vc) (.slice vb E.q vd)):=HBO.out.1.writes HW38.out (by omega);have HBF8:Hid (∀i,W8.frozen? ⟨w2.heap.size,i,none⟩=false):=fun i=>(World.frozen?_of_block (w:=W3) (a:=⟨w2.heap.size,i,none⟩) (HW38.out.block w2.heap.size (by omega) (.inr (by omega)))).trans (HBO.out.2 i)
  have HA8:Hid (Box4 W8 (w.heap.size+1) (.int .i64 0) (.int .i64 0) (.slice none 0 0) (.slice none 0 0)∧∀i,W8.frozen? ⟨w.heap.size+1,i,none⟩=false):=by
    have hs:=HB2.out.size;have e:=(HW38.out.block (w.heap.size+1) (by omega) (.inl (by omega))).trans (HB3.out.block (w.heap.size+1) (by omega));exact ⟨(HA2.out.1.below HB3.out).writes HW38.out (by omega),fun i=>(World.frozen?_of_block (w:=w2) (a:=⟨w.heap.size+1,i,none⟩) e).trans (HA2.out.2 i)⟩
  have HB8:Hid (Below w.heap.size w W8):=Writes.below HB03.out HW38.out (by omega);have HCH8:Hid (Own4 W8 lo hi ai m S):=(HCH.out.below HB03.out).writes HW38.out (by have:=HCH.out.1;omega)
  have HR8:Hid (RwsAt W8 vb E.q E.R):=by
    obtain ⟨a9,c9,e9,-,h9⟩:=HGR8.out.own;injection e9 with e9;subst e9
    exact h9.at
  have HZ8:Hid (w2.heap.size+1≤W8.heap.size∧ug<W8.heap.size):=⟨by omega,by omega⟩;obtain ⟨b0,b1,b2,b3⟩:=HBO8.out;clear hW8 hw78 HPT HTB HTF HUO8 HHOW HW37 HK7 HCT HOU HGR HBO HA2 HE2 HX HX3 HB4 HB5 HB6 HKV HSB HSW c47 f7 hz8 hs7 hz6 hug hw3 hbm HQ HU60 HR12;go_wp2_with fail;refine (placeOfRow_any E.q E.R vb vd key _ (by omega) HSO.out HR8.out).mono ?_;rintro e w9 ⟨i,rfl,hp,hb9⟩;have HP:Hid (Pl E.q E.R key i):=hp;have HF:=pl_fR HSO.out hp;have HGR9:Hid (GrRw M w2.heap.size w9 (.slice vb E.q vd) E.q E.R):=HGR8.out.below hb9;have HA9:Hid (Box4 w9 (w.heap.size+1) (.int .i64 0) (.int .i64 0) (.slice none 0 0) (.slice none 0 0)∧∀i,w9.frozen? ⟨w.heap.size+1,i,none⟩=false):=⟨HA8.out.1.below hb9,fun i=>((bcell2 hb9).2 _ _ HA8.out.1.lt).trans (HA8.out.2 i)⟩;have HB9:Hid (Below w.heap.size w w9):=below_then HB8.out hb9;have HCH9:Hid (Own4 w9 lo hi ai m S):=HCH8.out.below hb9;have HT9:Hid (OwnTxP w9 (fun x=>(b0'≤x∧x<M)∨(M≤ug∧ug≤x∧x<ug+1)) (some ⟨tb,0,none⟩) E.p (upf E.T j ⟨(E.T j).id,(E.T j).am,(E.T j).st,(E.T j).dn,(E.T j).n+1,upf (E.T j).U (E.T j).n uo⟩)):=HT8.out.writes (Writes.of_below (lo:=W8.heap.size) (hi:=W8.heap.size) hb9) (fun x hx=>.inl (by have:=HZ8.out;have:=HBM.out;omega));have HBX9:Hid (Box4 w9 w2.heap.size (.int .i64 E.nx) (.int .i64 E.ck) (.slice (some ⟨tb,0,none⟩) E.p vc) (.slice vb E.q vd)∧∀i,w9.frozen? ⟨w2.heap.size,i,none⟩=false):=⟨HBO8.out.below hb9,fun i=>((bcell2 hb9).2 _ _ HBO8.out.lt).trans (HBF8.out i)⟩;have HZ9:Hid (W8.heap.size≤w9.heap.size):=hb9.size;obtain ⟨xs,lxs,dxs,oxs,vxs,axs,cxs⟩:=HGR9.out.list;have HXS:Hid (xs.map HRw.t=rwL E):=dxs;have HAX:Hid (ApRw xs):=axs;have HCX:Hid (∀x ∈ xs,(∀q,(Value.slice vb E.q vd).ownBlock=some q→q<x.l∨x.h≤q)∧CtRw w9 M w2.heap.size x):=cxs;have HOX:Hid (w9.ownsRow M 173 2 (.slice vb E.q vd) E.q (hbRw xs)):=oxs;have HVX:Hid (∀q,(Value.slice vb E.q vd).ownBlock=some q→q<w2.heap.size):=vxs;clear b0 b1 b2 b3 hb9 hp HGR8 HBO8 HA8 HB8 HCH8 HR8 HT8 dxs axs cxs vxs HGR9
  rcases HF with ⟨h1,h2⟩ | ⟨h1,h2,h3⟩
  · rw [h1];obtain ⟨b0,b1,b2,b3⟩:=HBX9.out.1;have hbm:=HBM.out;have hq9:=HZ9.out;have hq8:=HZ8.out;have hwz:=HB2.out.size;have hiq:=HP.out.1;clear oxs h2;go_wp2_with fail;refine (insRw_any _ M E.q i w9.heap.size 1 (.slice vb E.q vd) (hbRw xs) (rcRw ⟨key,0,fun _=>zV⟩ none 0) (HOX.out.alloc _) hiq (by simp;omega) (by omega) (hbRw_oneS xs) ?_ (heap_alloc_new _ _) rfl ?_ (rcRw_one _ _ _)).mono ?_
    · intro e9;have:=HVX.out _ e9;omega
    · intro q u hq;have hd:q<2:=(by have:=(List.getElem?_eq_some_iff.1 hq).1;simpa [rcRw] using this);have hd2:q=0∨q=1:=(by omega)
      rcases hd2 with rfl | rfl <;> (rw [←hq];simp [rcRw,go_sem])
    rintro e w10 ⟨g,c9,rfl,ho10,hg10,hl10,hlt10⟩;rw [←hbRw_ins xs ⟨⟨key,0,fun _=>zV⟩,none,0,0,0⟩ i] at ho10;rw [World.size_alloc] at hl10;have hs10:w9.heap.size+1≤w10.heap.size:=(by have:=hg10.size;rw [World.size_alloc] at this;exact this);have hkk:∀x,x<w9.heap.size→some x≠(Value.slice vb E.q vd).ownBlock→w10.heap[x]? = w9.heap[x]?:=fun x hx hne=>(hg10.block x (by rw [World.size_alloc];omega) hne).trans (heap_alloc_old w9 _ hx);have hW910:Writes M w2.heap.size w9 w10:=⟨hg10.os,hg10.tape,hg10.output,by omega,fun x hx hd=>hkk x hx fun e9=>by have h7:=HVX.out x e9.symm;have h8:=(HOX.out.lt x e9.symm).1;omega⟩
    have hlg:(M≤g∧g<w2.heap.size∧(Value.slice vb E.q vd).ownBlock=some g)∨g=w9.heap.size+1:=by
      rcases hl10 with h7 | h7
      · exact .inl ⟨(HOX.out.lt g h7).1,HVX.out g h7,h7⟩
      · exact .inr h7
    have HG11:Hid (((M≤g∧g<w2.heap.size)∨g=w9.heap.size+1)∧g<w10.heap.size):=⟨by omega,hlt10⟩
    have HCT10:Hid (∀x ∈ skH false i ⟨⟨key,0,fun _=>zV⟩,none,0,0,0⟩ xs,(g<x.l∨x.h≤g)∧(x.h=0∨M≤x.l∧x.h≤w2.heap.size)∧x.t.n≤x.c∧Own4 w10 x.l x.h x.A x.t.n x.t.U):=fun x hx=>by
      rcases skH_mem hx with rfl | hx
      · exact ⟨.inr (Nat.zero_le _),.inl rfl,Nat.le_refl _,Nat.zero_le _,.inl rfl⟩
      · obtain ⟨m1,m2,m3,m4⟩:=HCX.out x hx;refine ⟨?_,m2,m3,own4_keepX m4 (by omega) fun y y1 y2=>hkk y (by omega) fun e9=>by have:=m1 y e9.symm;omega⟩
        rcases hlg with ⟨-,-,h7⟩ | h7
        · exact m1 g h7
        · omega
    have HHD10:Hid (∀k x,(skH false i ⟨⟨key,0,fun _=>zV⟩,none,0,0,0⟩ xs)[k]? = some x→CRw w10 g (k*2) x.t x.A x.c):=by
      obtain ⟨a8,c8,e8,-,hat⟩:=HAtRw.of_row (by rw [skH_len0 (by omega),lxs]) ho10;injection e8 with e8;subst e8
      rcases hat with h9 | ⟨b,off,e9,-,hc⟩
      · have h8:=skH_len0 (y:=⟨⟨key,0,fun _=>zV⟩,none,0,0,0⟩) (i:=i) (xs:=xs) (by omega);rw [h9] at h8;simp at h8
      · injection e9 with e9;injection e9 with e9 e10;subst e9;subst e10;intro k x hk;have:=hc k x hk
        rwa [Nat.zero_add] at this
    have hx11:=skH_at0 (y:=⟨⟨key,0,fun _=>zV⟩,none,0,0,0⟩) (i:=i) (xs:=xs) (by omega);have hf10:∀i,w10.frozen? ⟨g,i,none⟩=false:=fun i=>ho10.frozenAt _;obtain ⟨y0,y1⟩:=HHD10.out i _ hx11;have HAX11:Hid (ApRw (skH false i ⟨⟨key,0,fun _=>zV⟩,none,0,0,0⟩ xs)):=skH_ap HAX.out fun x hx=>.inr (Nat.zero_le _);have HBX10:Hid (Box4 w10 w2.heap.size (.int .i64 E.nx) (.int .i64 E.ck) (.slice (some ⟨tb,0,none⟩) E.p vc) (.slice vb E.q vd)):=HBX9.out.1.writes hW910 (.inr (Nat.le_refl _));have bf:∀i,w10.frozen? ⟨w2.heap.size,i,none⟩=false:=fun i=>(World.frozen?_of_block (w:=w9) (a:=⟨w2.heap.size,i,none⟩) (hW910.block w2.heap.size (by omega) (.inr (Nat.le_refl _)))).trans (HBX9.out.2 i);have HA10:Hid (Box4 w10 (w.heap.size+1) (.int .i64 0) (.int .i64 0) (.slice none 0 0) (.slice none 0 0)):=HA9.out.1.writes hW910 (by omega);have zf:∀i,w10.frozen? ⟨w.heap.size+1,i,none⟩=false:=fun i=>(World.frozen?_of_block (w:=w9) (a:=⟨w.heap.size+1,i,none⟩) (hW910.block (w.heap.size+1) (by omega) (.inl (by omega)))).trans (HA9.out.2 i);have HB10:Hid (Below w.heap.size w w10):=Writes.below HB9.out hW910 (by omega)
    have hu3:ug<M∨w5.heap.size+1=ug:=by
      by_cases hq:M≤ug
      · exact .inr (HUGT.out.2.2 hq)
      · exact .inl (by omega)
    have hz6:=HZ6.out;have hw3:=HW3.out;have hch1:=HCH.out.1;have HT10:Hid (OwnTxP w10 (fun x=>(b0'≤x∧x<M)∨(M≤ug∧ug≤x∧x<ug+1)) (some ⟨tb,0,none⟩) E.p (upf E.T j ⟨(E.T j).id,(E.T j).am,(E.T j).st,(E.T j).dn,(E.T j).n+1,upf (E.T j).U (E.T j).n uo⟩)):=HT9.out.writes hW910 (fun x hx=>by omega);have HCH10:Hid (Own4 w10 lo hi ai m S):=HCH9.out.writes hW910 (by omega)
    have hlen:(skL false i ⟨key,m,S⟩ (rwL E)).length=E.q+1:=by
      rw [skL_len false i _ _ (by simp [rwL];exact hiq)];simp [rwL]
    obtain ⟨b0,b1,b2,b3⟩:=HBX10.out;obtain ⟨z0,z1,z2,z3⟩:=HA10.out;have hi1:(i:Int)<(E.q:Int)+1:=(by omega);have hi0:(0:Int)≤(i:Int):=(by omega);have n1:g≠w2.heap.size:=(by omega);have n2:g≠w.heap.size+1:=(by omega);have n3:w2.heap.size≠w.heap.size+1:=(by omega);have HZ11:Hid (w9.heap.size+1≤w10.heap.size):=hs10;clear ho10 hg10 hl10 hlt10 hkk hlg y0 hu3 hz6 hw3 hch1 hW910 hs10;go_wp2_with fail;obtain ⟨W11,hW11⟩:∃x,x=w10.setCell ⟨w2.heap.size,3,none⟩ (.slice (some ⟨g,0,none⟩) (E.q+1) c9):=⟨_,rfl⟩;rw [←hW11];have hw11:Writes w2.heap.size (w2.heap.size+1) w10 W11:=(by rw [hW11];exact Writes.setCell (Writes.refl _ _ _) (p:=⟨w2.heap.size,_,none⟩) (Nat.le_refl _) (Nat.lt_succ_self _) _);have hs11:W11.heap.size=w10.heap.size:=(by rw [hW11];simp [World.setCell]);have hgg:=HG11.out;have hz11:=HZ11.out;have eg:=hw11.block g (by omega) (by omega);have HA11:Hid (Box4 W11 (w.heap.size+1) (.int .i64 0) (.int .i64 0) (.slice none 0 0) (.slice none 0 0)∧True):=⟨HA10.out.writes hw11 (by omega),trivial⟩;have HB11:Hid (Below w.heap.size w W11):=Writes.below HB10.out hw11 (by omega)
    have hu4:ug<M∨w5.heap.size+1=ug:=by
      by_cases hq:M≤ug
      · exact .inr (HUGT.out.2.2 hq)
      · exact .inl (by omega)
    have hz66:=HZ6.out;have hw33:=HW3.out;have hch11:=HCH.out.1;have HT11:=HT10.out.writes hw11 (fun x hx=>by omega);have HT11:Hid (OwnTxP W11 (fun x=>(b0'≤x∧x<M)∨(M≤ug∧ug≤x∧x<ug+1)) (some ⟨tb,0,none⟩) E.p (upf E.T j ⟨(E.T j).id,(E.T j).am,(E.T j).st,(E.T j).dn,(E.T j).n+1,upf (E.T j).U (E.T j).n uo⟩)):=HT11;have HCH11:Hid (Own4 W11 lo hi ai m S):=HCH10.out.writes hw11 (by omega)
    have HCT11:Hid (∀x ∈ skH false i ⟨⟨key,0,fun _=>zV⟩,none,0,0,0⟩ xs,(g<x.l∨x.h≤g)∧(x.h=0∨M≤x.l∧x.h≤w2.heap.size)∧x.t.n≤x.c∧Own4 W11 x.l x.h x.A x.t.n x.t.U):=fun x hx=>by
      obtain ⟨m1,m2,m3,m4⟩:=HCT10.out x hx;exact ⟨m1,m2,m3,m4.writes hw11 (by omega)⟩
    have HHD11:Hid (∀k x,(skH false i ⟨⟨key,0,fun _=>zV⟩,none,0,0,0⟩ xs)[k]? = some x→CRw W11 g (k*2) x.t x.A x.c):=fun k x hk=>by
      obtain ⟨p0,p1⟩:=HHD10.out k x hk;exact ⟨(World.cell?_of_block (w:=w10) (a:=⟨g,k*2,none⟩) eg).trans p0,(World.cell?_of_block (w:=w10) (a:=⟨g,k*2+1,none⟩) eg).trans p1⟩
    have hg11:∀i,W11.frozen? ⟨g,i,none⟩=false:=fun i=>(World.frozen?_of_block (w:=w10) (a:=⟨g,i,none⟩) eg).trans (hf10 i);obtain ⟨V1,hV1⟩:∃x,x=W11.setCell ⟨g,i*2+1,none⟩ (.slice ai m ci):=⟨_,rfl⟩;rw [←hV1];have hw91:Writes g (g+1) W11 V1:=(by rw [hV1];exact Writes.setCell (Writes.refl _ _ _) (p:=⟨g,_,none⟩) (Nat.le_refl _) (Nat.lt_succ_self _) _);obtain ⟨⟨q0,q1,q2,q3⟩,hw10,hs10⟩:=box4_put V1 (w.heap.size+1) (.int .i64 E.nx) (.int .i64 E.ck) (.slice (some ⟨tb,0,none⟩) E.p vc) (.slice (some ⟨g,0,none⟩) (E.q+1) c9) (HA11.out.1.writes hw91 (by omega));generalize (((V1.setCell ⟨w.heap.size+1,0,none⟩ (.int .i64 E.nx)).setCell ⟨w.heap.size+1,1,none⟩ (.int .i64 E.ck)).setCell ⟨w.heap.size+1,2,none⟩ (.slice (some ⟨tb,0,none⟩) E.p vc)).setCell ⟨w.heap.size+1,3,none⟩ (.slice (some ⟨g,0,none⟩) (E.q+1) c9)=W10 at *;refine bodyPost_ret (v:=.agg #[.int .i64 E.nx,.int .i64 E.ck,.slice (some ⟨tb,0,none⟩) E.p vc,.slice (some ⟨g,0,none⟩) (E.q+1) c9]) (by simp [results,Tryz.results122,go_sem,q0,q1,q2,q3]) rfl ?_;have hch1:=HCH.out.1;have hwz:=HB2.out.size;have hgg:=HG11.out;have hz11:=HZ11.out
    have hu3:ug<M∨w5.heap.size+1=ug:=by
      by_cases hq:M≤ug
      · exact .inr (HUGT.out.2.2 hq)
      · exact .inl (by omega)
    have hz6:=HZ6.out;have hw3:=HW3.out;have hz9:=HZ9.out;have hz8:=HZ8.out;refine ⟨i,some ⟨tb,0,none⟩,vc,some ⟨g,0,none⟩,c9,HP.out,?_,?_,fun x=>(b0'≤x∧x<M)∨(M≤ug∧ug≤x∧x<ug+1),fun x=>(M≤x∧x<w2.heap.size)∨(lo≤x∧x<hi)∨(w9.heap.size<x∧x=g),fun x hx=>by dsimp only at hx;omega,fun x hx=>by dsimp only at hx;omega,fun x hx hy=>by dsimp only at hx hy;omega,?_,?_⟩
    · rw [h1,hlen]
    · exact Writes.below (Writes.below HB11.out hw91 (by omega)) hw10 (by omega)
    · rw [←HUO.out];exact (HT11.out.writes hw91 (fun x hx=>by omega)).writes hw10 (fun x hx=>by omega)
    · rw [h1];have hrs:=rows_set (P:=fun x=>(M≤x∧x<w2.heap.size)∨(lo≤x∧x<hi)∨(w9.heap.size<x∧x=g)) hx11 rfl HHD11.out HAX11.out (fun x hx=>?_) (fun x hx=>?_) HCH11.out hmc (by omega) (fun y y1 y2=>.inr (.inl ⟨y1,y2⟩)) (by omega) (by omega) hg11
      · rw [←hV1,skH_t,skL_skL (by rw [List.length_map,lxs];exact HP.out.1),HXS.out] at hrs;exact hrs.keep hw10.size fun x hx h9=>hw10.block x h9 (by omega)
      · obtain ⟨m1,m2,m3,m4⟩:=HCT11.out x hx;exact ⟨m1,m3,m4,fun y y1 y2=>.inl (by omega)⟩
      · obtain ⟨m1,m2,m3,m4⟩:=HCT11.out x hx;omega
  · rw [h1]
    obtain ⟨g,rfl,hg9⟩:∃g,vb=some ⟨g,0,none⟩∧∀i,w9.frozen? ⟨g,i,none⟩=false:=by
      rcases oxs.2 with ⟨e9,h9⟩ | ⟨g,c9,cur,e9,-⟩
      · omega
      · injection e9 with e9;subst e9;exact ⟨g,rfl,fun i=>oxs.frozenAt _⟩
    have hgz:=HVX.out g rfl;have hgM:=(oxs.lt g rfl).1;obtain ⟨a9,c9,e9,-,hat⟩:=HAtRw.of_row lxs oxs;injection e9 with e9;subst e9
    have HHD:Hid (∀k x,xs[k]? = some x→CRw w9 g (k*2) x.t x.A x.c):=by
      rcases hat with h9 | ⟨b,off,e9,-,hc⟩
      · rw [h9] at lxs;simp at lxs;omega
      · injection e9 with e9;injection e9 with e9 e10;subst e9;subst e10;intro k x hk;have:=hc k x hk
        rwa [Nat.zero_add] at this
    obtain ⟨x0,hx0⟩:∃x,xs[i]? = some x:=⟨_,List.getElem?_eq_getElem (by omega)⟩;obtain ⟨y0,y1⟩:=HHD.out i x0 hx0;obtain ⟨b0,b1,b2,b3⟩:=HBX9.out.1;obtain ⟨z0,z1,z2,z3⟩:=HA9.out.1;have zf:=HA9.out.2;have hbm:=HBM.out;have hi1:(i:Int)<(E.q:Int):=(by omega);have hi0:(0:Int)≤(i:Int):=(by omega);have n1:g≠w2.heap.size:=(by omega);have n2:g≠w.heap.size+1:=(by have:=HB2.out.size;omega);have n3:w2.heap.size≠w.heap.size+1:=(by omega);have HG:Hid (M≤g∧g<w2.heap.size):=⟨hgM,hgz⟩;clear oxs hat hgz hgM y0 h3;go_wp2_with fail
    have hk:x0.t.key=key:=by
      have e1:(xs.map HRw.t)[i]? = some x0.t:=(by rw [List.getElem?_map,hx0];rfl);rw [HXS.out] at e1;have e2:(rwL E)[i]? = some (E.R i):=(by simp [rwL,h2]);rw [e2] at e1;injection e1 with e1;rw [←e1];unfold plF at h1;simp only [Bool.and_eq_true,beq_iff_eq] at h1;exact h1.2
    have hlen:(skL true i ⟨key,m,S⟩ (rwL E)).length=E.q:=by
      rw [skL_len true i _ _ (by simp [rwL];exact h2)];simp [rwL]
    have HCT2:Hid (∀x ∈ xs,(g<x.l∨x.h≤g)∧(x.h=0∨M≤x.l∧x.h≤w2.heap.size)∧x.t.n≤x.c∧Own4 w9 x.l x.h x.A x.t.n x.t.U):=fun x hx=>by
      obtain ⟨m1,m2,m3,m4⟩:=HCX.out x hx;exact ⟨m1 g rfl,m2,m3,m4⟩
    obtain ⟨V1,hV1⟩:∃x,x=w9.setCell ⟨g,i*2+1,none⟩ (.slice ai m ci):=⟨_,rfl⟩;rw [←hV1];have hw91:Writes g (g+1) w9 V1:=(by rw [hV1];exact Writes.setCell (Writes.refl _ _ _) (p:=⟨g,_,none⟩) (Nat.le_refl _) (Nat.lt_succ_self _) _);obtain ⟨⟨q0,q1,q2,q3⟩,hw10,hs10⟩:=box4_put V1 (w.heap.size+1) (.int .i64 E.nx) (.int .i64 E.ck) (.slice (some ⟨tb,0,none⟩) E.p vc) (.slice (some ⟨g,0,none⟩) E.q c9) (HA9.out.1.writes hw91 (by omega));generalize (((V1.setCell ⟨w.heap.size+1,0,none⟩ (.int .i64 E.nx)).setCell ⟨w.heap.size+1,1,none⟩ (.int .i64 E.ck)).setCell ⟨w.heap.size+1,2,none⟩ (.slice (some ⟨tb,0,none⟩) E.p vc)).setCell ⟨w.heap.size+1,3,none⟩ (.slice (some ⟨g,0,none⟩) E.q c9)=W10 at *;refine bodyPost_ret (v:=.agg #[.int .i64 E.nx,.int .i64 E.ck,.slice (some ⟨tb,0,none⟩) E.p vc,.slice (some ⟨g,0,none⟩) E.q c9]) (by simp [results,Tryz.results122,go_sem,q0,q1,q2,q3]) rfl ?_;have hch1:=HCH.out.1;have hwz:=HB2.out.size;have hgg:=HG.out
    have hu3:ug<M∨w5.heap.size+1=ug:=by
      by_cases hq:M≤ug
      · exact .inr (HUGT.out.2.2 hq)
      · exact .inl (by omega)
    have hz6:=HZ6.out;have hw3:=HW3.out;have hz9:=HZ9.out;have hz8:=HZ8.out;refine ⟨i,some ⟨tb,0,none⟩,vc,some ⟨g,0,none⟩,c9,HP.out,?_,?_,fun x=>(b0'≤x∧x<M)∨(M≤ug∧ug≤x∧x<ug+1),fun x=>(M≤x∧x<w2.heap.size)∨(lo≤x∧x<hi)∨x<0,fun x hx=>by dsimp only at hx;omega,fun x hx=>by dsimp only at hx;omega,fun x hx hy=>by dsimp only at hx hy;omega,?_,?_⟩
    · rw [h1,hlen]
    · exact Writes.below (Writes.below HB9.out hw91 (by omega)) hw10 (by omega)
    · rw [←HUO.out];exact (HT9.out.writes hw91 (fun x hx=>by omega)).writes hw10 (fun x hx=>by omega)
    · rw [h1];have hrs:=rows_set (P:=fun x=>(M≤x∧x<w2.heap.size)∨(lo≤x∧x<hi)∨x<0) hx0 hk HHD.out HAX.out (fun x hx=>?_) (fun x hx=>?_) HCH9.out hmc (by omega) (fun y y1 y2=>.inr (.inl ⟨y1,y2⟩)) (.inl (by omega)) (by omega) hg9
      · rw [←hV1,HXS.out] at hrs;exact hrs.keep hw10.size fun x hx h9=>hw10.block x h9 (by omega)
      · obtain ⟨m1,m2,m3,m4⟩:=HCT2.out x hx;exact ⟨m1,m3,m4,fun y y1 y2=>.inl (by omega)⟩
      · obtain ⟨m1,m2,m3,m4⟩:=HCT2.out x hx;omega
def plN (R:Nat→Rw) (key:Int):Nat→Nat
  | 0=>0
  | q+1=>if (R q).key<key then q+1 else plN R key q
theorem plN_of {R:Nat→Rw} {key:Int}:∀{q i:Nat},Pl q R key i→i=plN R key q
  | 0,i,h=>by have:=h.1;simp only [plN];omega
  | q+1,i,⟨h1,h2,h3⟩=>by
    rw [plN]
    by_cases hk:(R q).key<key
    · rw [if_pos hk]
      by_cases e:i=q+1
      · exact e
      · have:=h3 q (by omega) (Nat.lt_succ_self q);omega
    · rw [if_neg hk]
      have hi:i≤q:=by
        by_cases e:i=q+1
        · have:=h2 q (by omega);omega
        · omega
      exact plN_of ⟨hi,h2,fun x hx hq=>h3 x hx (by omega)⟩
def wrL (E:En) (key:Int) (m:Nat) (S:Nat→Vr):List Rw:=skL (plF E.q E.R key (plN E.R key E.q)) (plN E.R key E.q) ⟨key,m,S⟩ (rwL E)
def wrE (E:En) (j:Nat) (key v:Int) (g:Bool):En:=
  ⟨E.nx,E.ck,E.p,upf E.T j ⟨(E.T j).id,(E.T j).am,(E.T j).st,(E.T j).dn,(E.T j).n+1,upf (E.T j).U (E.T j).n (uoF (ckN E key) (ckU E key) (E.T j).id key)⟩,
    (wrL E key (pvN (ckN E key) (ckU E key) (E.T j).am (E.T j).id g v) (pvS (ckN E key) (ckU E key) (E.T j).id g v)).length,fun x=>(wrL E key (pvN (ckN E key) (ckU E key) (E.T j).am (E.T j).id g v) (pvS (ckN E key) (ckU E key) (E.T j).id g v)).getD x zRw⟩
def wcC (E:En) (id key v:Int) (g:Bool):Int:=if askC E id=0 then (if inB key 0 31=true then (if inB v 0 9999=true then cwC E (askP E id).toNat key v g else 3) else 3) else askC E id
def wcE (E:En) (id key v:Int) (g:Bool):En:=if wcC E id key v g=0 then wrE E (askP E id).toNat key v g else zEn
theorem wc_bad {E:En} {id key v:Int} {g:Bool} {c:Int} (h:wcC E id key v g=c) (hc:c≠0):wcE E id key v g=zEn:=if_neg (by rw [h];exact hc)
theorem bool_orW (c:Bool):c=true∨c=false:=by cases c <;> simp
theorem OwnTxP.lim {w:World} {P:Nat→Prop} {a:Option Addr} {n:Nat} {T:Nat→Tx} (h:OwnTxP w P a n T):OwnTxP w (fun x=>P x∧x<w.heap.size) a n T:=by
  obtain h9 | ⟨b,off,ha,hp,hl,hf,l,h,hd,hc⟩:=h
  · exact .inl h9
  · refine .inr ⟨b,off,ha,⟨hp,hl⟩,hl,hf,l,h,hd,fun i hi=>?_⟩;obtain ⟨k0,k1,ai,ci,k2,k3,k4⟩:=hc i hi;exact ⟨k0,fun x h1 h2=>⟨k1 x h1 h2,by have:=k4.1;omega⟩,ai,ci,k2,k3,k4⟩
theorem OwnRwP.lim {w:World} {P:Nat→Prop} {a:Option Addr} {n:Nat} {T:Nat→Rw} (h:OwnRwP w P a n T):OwnRwP w (fun x=>P x∧x<w.heap.size) a n T:=by
  obtain h9 | ⟨b,off,ha,hp,hl,hf,l,h,hd,hc⟩:=h
  · exact .inl h9
  · refine .inr ⟨b,off,ha,⟨hp,hl⟩,hl,hf,l,h,hd,fun i hi=>?_⟩;obtain ⟨k0,k1,ai,ci,k2,k3,k4⟩:=hc i hi;exact ⟨k0,fun x h1 h2=>⟨k1 x h1 h2,by have:=k4.1;omega⟩,ai,ci,k2,k3,k4⟩
theorem refused_door {E:En} {id key v:Int} {g:Bool} {c:Int} {w W:World} {R0:Nat} (tmps:Array Value) (ht:tmps[8]? = some (.pointer (some ⟨R0,0,none⟩))) (hR:w.heap.size≤R0) (hB:Below w.heap.size w W) (hz:Box6 W (R0) (.int .i64 0) (.int .i64 0) (.int .i64 0) (.int .i64 0) (.slice none 0 0) (.slice none 0 0)) (hf:∀i,W.frozen? ⟨R0,i,none⟩=false) (hc:wcC E id key v g=c) (h0:c≠0) :
    Leaves Tryz.prog Tryz.f66 tmps (ERes2 (wcC E id key v g) 0 (wcE E id key v g) w) [{ target:=.fn (.func 118) #[.pointer (some ⟨R0,0,none⟩)],args:=#[] }] (.panicking [{ v:=.iface 185 (.int .i64 c),recovered:=false }]) W:=by
  refine leaves_cons (f:=118) (args:=#[.pointer (some ⟨R0,0,none⟩)]) (by simp) (by simp [go_sem]) ?_;refine (refD_bad (R0) c W hf hz).mono ?_;rintro e u' w4 ⟨rfl,rfl,hw4,hz4,hb4⟩;obtain ⟨r0,r1,r2,r3,r4,r5⟩:=hb4;refine ⟨.agg #[.int .i64 c,.int .i64 0,.int .i64 0,.int .i64 0,.slice none 0 0,.slice none 0 0],?_,?_⟩
  · simp [results,Tryz.results66,go_sem, *]
  · rw [hc,wc_bad hc h0];exact eres_bad2 (hw4.below hB (by omega))
set_option maxHeartbeats 16000000 in
theorem writeCell_any (E:En) (a:Option Addr) (cap:Nat) (a':Option Addr) (cap':Nat) (id key v:Int) (g:Bool) (w:World) (hs:SmallE E) (h:EngAt w a a' E) :
    Calls Tryz.prog 66 #[.agg #[.int .i64 E.nx,.int .i64 E.ck,.slice a E.p cap,.slice a' E.q cap'],.int .i64 id,.agg #[.int .i64 key,.int .i64 v],.bool g] w (ERes2 (wcC E id key v g) 0 (wcE E id key v g) w):=by
  have HXA:Hid (EngAt w a a' E):=h;have HS:Hid (SmallE E):=hs;have hmf:∀(fn:Fn) (first cap:Array Value) (w:World),(Instr.makeFunc fn first cap).run Tryz.prog w=.ok (.func fn first cap) w:=fun _ _ _ _=>rfl;clear h hs
  have HBX:Hid (∀o1 o2 o3:Obj,o1=.cells #[.int .i64 E.nx,.int .i64 E.ck,.slice a E.p cap,.slice a' E.q cap'] 30→o2=.cells #[.int .i64 key,.int .i64 v] 114→o3=.cells #[.int .i64 0,.int .i64 0,.int .i64 0,.int .i64 0,.slice none 0 0,.slice none 0 0] 32→
      Box4 (((w.alloc o1).alloc o2).alloc o3) w.heap.size (.int .i64 E.nx) (.int .i64 E.ck) (.slice a E.p cap) (.slice a' E.q cap')∧Box2 (((w.alloc o1).alloc o2).alloc o3) (w.heap.size+1) (.int .i64 key) (.int .i64 v)∧Box6 (((w.alloc o1).alloc o2).alloc o3) (w.heap.size+1+1) (.int .i64 0) (.int .i64 0) (.int .i64 0) (.int .i64 0) (.slice none 0 0) (.slice none 0 0)∧(∀i,(((w.alloc o1).alloc o2).alloc o3).frozen? ⟨w.heap.size+1+1,i,none⟩=false)∧Below w.heap.size w (((w.alloc o1).alloc o2).alloc o3)∧(((w.alloc o1).alloc o2).alloc o3).heap.size=w.heap.size+3):=by
    rintro o1 o2 o3 rfl rfl rfl;exact ⟨((Box4.new w _ _ _ _ _).alloc _).alloc _,by simp [Box2,go_sem],by simp [Box6,go_sem],fun i=>by simp [go_sem],(((Below.refl _ _).alloc (Nat.le_refl _) _).alloc (by simp) _).alloc (by simp;omega) _,by simp⟩
  go_enter_defers Tryz.func66,Tryz.ntmps66;go_wp2_with fail;obtain ⟨hb4,hbk,hb6,hbf,hbw,hbs⟩:=HBX.out _ _ _ rfl rfl rfl;refine (placeOfOpen_any E a cap a' cap' id _ HS.out (HXA.out.below hbw)).mono ?_;rintro e W ⟨rfl,hb1⟩;have HB4:Hid (Box4 W w.heap.size (.int .i64 E.nx) (.int .i64 E.ck) (.slice a E.p cap) (.slice a' E.q cap')):=hb4.below hb1;have HBK:Hid (Box2 W (w.heap.size+1) (.int .i64 key) (.int .i64 v)):=hbk.below hb1;have HR6:Hid (Box6 W (w.heap.size+1+1) (.int .i64 0) (.int .i64 0) (.int .i64 0) (.int .i64 0) (.slice none 0 0) (.slice none 0 0)):=hb6.below hb1;have HRF:Hid (∀i,W.frozen? ⟨w.heap.size+1+1,i,none⟩=false):=fun i=>((bcell2 hb1).2 _ _ (by rw [hbs];omega)).trans (hbf i);have HBW:Hid (Below w.heap.size w W):=below_then hbw hb1;have HS1:Hid (w.heap.size+3≤W.heap.size):=(by have:=hb1.size;rw [hbs] at this;exact this);clear hb1 hb4 hbk hb6 hbf hbw hbs HBX;go_wp2_with fail;refine (refuse_any _ _).mono ?_;rintro e W2 ⟨hc | hc,hw2⟩
  case inr=>
    obtain ⟨hc,rfl⟩:=hc;obtain rfl:=hw2.symm;have hC:wcC E id key v g=askC E id:=if_neg hc;exact refused_door _ rfl (by omega) HBW.out HR6.out HRF.out hC hc
  obtain ⟨hc,rfl⟩:=hc;obtain rfl:=hw2.symm;obtain ⟨h0,j,hj,hp,hid⟩:=ask_open hc;have HEX:Hid (EngAt W a a' E):=HXA.out.below HBW.out;have HH0:Hid (eF E=0):=h0;have HHC:Hid (askC E id=0):=hc;have HHP:Hid ((askP E id).toNat=j):=(by rw [Hid,hp,Int.toNat_natCast]);obtain ⟨b0,b1,b2,b3⟩:=HB4.out;obtain ⟨k0,k1⟩:=HBK.out;rw [hc,hp];clear hc hp h0 hid;go_wp2_with fail;refine (isKey_any key _).mono ?_;rintro e W2 ⟨rfl,hw2⟩;obtain rfl:=hw2.symm
  rcases (bool_orW (inB key 0 31)).symm with hk | hk
  · have hC:wcC E id key v g=3:=by unfold wcC;rw [if_pos HHC.out,hk,if_neg (by decide)]
    have HDR:Hid (∀(tmps:Array Value),tmps[8]? = some (.pointer (some ⟨w.heap.size+1+1,0,none⟩))→Leaves Tryz.prog Tryz.f66 tmps (ERes2 (wcC E id key v g) 0 (wcE E id key v g) w) [{ target:=.fn (.func 118) #[.pointer (some ⟨w.heap.size+1+1,0,none⟩)],args:=#[] }] (.panicking [{ v:=.iface 185 (.int .i64 3),recovered:=false }]) W):=fun tmps ht=>refused_door tmps ht (by omega) HBW.out HR6.out HRF.out hC (by decide);rw [hk];clear hk hC;go_wp2_with fail;refine (refuse_any _ _).mono ?_;rintro e W2 ⟨hc | hc,hw2⟩
    · exact absurd hc.1 (by decide)
    · obtain ⟨-,rfl⟩:=hc;obtain rfl:=hw2.symm;exact HDR.out _ rfl
  have HKY:Hid (inB key 0 31=true):=hk;rw [hk];clear hk;go_wp2_with fail;refine (isValue_any v _).mono ?_;rintro e W2 ⟨rfl,hw2⟩;obtain rfl:=hw2.symm
  rcases (bool_orW (inB v 0 9999)).symm with hk | hk
  · have hC:wcC E id key v g=3:=by unfold wcC;rw [if_pos HHC.out,HKY.out,if_pos rfl,hk,if_neg (by decide)]
    have HDR:Hid (∀(tmps:Array Value),tmps[8]? = some (.pointer (some ⟨w.heap.size+1+1,0,none⟩))→Leaves Tryz.prog Tryz.f66 tmps (ERes2 (wcC E id key v g) 0 (wcE E id key v g) w) [{ target:=.fn (.func 118) #[.pointer (some ⟨w.heap.size+1+1,0,none⟩)],args:=#[] }] (.panicking [{ v:=.iface 185 (.int .i64 3),recovered:=false }]) W):=fun tmps ht=>refused_door tmps ht (by omega) HBW.out HR6.out HRF.out hC (by decide);rw [hk];clear hk hC;go_wp2_with fail;refine (refuse_any _ _).mono ?_;rintro e W2 ⟨hc | hc,hw2⟩
    · exact absurd hc.1 (by decide)
    · obtain ⟨-,rfl⟩:=hc;obtain rfl:=hw2.symm;exact HDR.out _ rfl
  have hC0:wcC E id key v g=cwC E j key v g:=(by unfold wcC;rw [if_pos HHC.out,HKY.out,if_pos rfl,hk,if_pos rfl,HHP.out]);have HCC:Hid (wcC E id key v g=cwC E j key v g):=hC0;rw [hk];clear hk hC0;go_wp2_with fail;refine (chainTo_any E a cap a' cap' j key v g _ HH0.out hj HEX.out).mono ?_;rintro e W2 (⟨hc,ai,ci,rfl,hsh,hb2,ho⟩ | ⟨hc,rfl,hb2⟩)
  case inr=>
    exact refused_door _ rfl (by omega) (below_then HBW.out hb2) (HR6.out.below hb2) (fun i=>((bcell2 hb2).2 _ _ (by have:=HS1.out;omega)).trans (HRF.out i)) HCC.out hc
  have HC0:Hid (cwC E j key v g=0):=hc;have HB2:Hid (Below W.heap.size W W2):=hb2;have HSH:Hid (ShA ai (pvN (ckN E key) (ckU E key) (E.T j).am (E.T j).id g v) ci):=hsh;have HO2:Hid (Own4 W2 W.heap.size W2.heap.size ai (pvN (ckN E key) (ckU E key) (E.T j).am (E.T j).id g v) (pvS (ckN E key) (ckU E key) (E.T j).id g v)):=ho
  have HN60:Hid ((E.T j).n≠60):=by
    show _≠_;intro e;have h:=HC0.out;unfold cwC at h;split at h
    · rename_i h1;exact absurd h h1.2
    · split at h
      · rename_i h1;exact absurd h h1
      · exact absurd h (by decide)
  have HEX2:Hid (EngAt W2 a a' E):=HEX.out.below HB2.out;replace b0:=cell_below b0 hb2;replace b1:=cell_below b1 hb2;replace b2:=cell_below b2 hb2;replace b3:=cell_below b3 hb2;replace k0:=cell_below k0 hb2;replace k1:=cell_below k1 hb2
  have HW:Hid (Calls Tryz.prog 122 #[.agg #[.int .i64 E.nx,.int .i64 E.ck,.slice a E.p cap,.slice a' E.q cap'],.int .i64 j,.int .i64 key,.slice ai (pvN (ckN E key) (ckU E key) (E.T j).am (E.T j).id g v) ci] W2 (WwA E j key (pvN (ckN E key) (ckU E key) (E.T j).am (E.T j).id g v) (pvS (ckN E key) (ckU E key) (E.T j).id g v) W.heap.size W2.heap.size W2)):=
    withWrite_any E a cap a' cap' j key ai ci _ _ _ _ W2 HH0.out hj HEX2.out HO2.out HSH.out.1 HN60.out
  have HGE:Hid (wcE E id key v g=wrE E j key v g):=by
    show _=_;unfold wcE;rw [if_pos (by rw [HCC.out];exact HC0.out),HHP.out]
  clear hc hb2 hsh ho HO2 HSH HN60
  have HWR:Hid (wrE E j key v g=⟨E.nx,E.ck,E.p,upf E.T j ⟨(E.T j).id,(E.T j).am,(E.T j).st,(E.T j).dn,(E.T j).n+1,upf (E.T j).U (E.T j).n (uoF (ckN E key) (ckU E key) (E.T j).id key)⟩,
    (wrL E key (pvN (ckN E key) (ckU E key) (E.T j).am (E.T j).id g v) (pvS (ckN E key) (ckU E key) (E.T j).id g v)).length,fun x=>(wrL E key (pvN (ckN E key) (ckU E key) (E.T j).am (E.T j).id g v) (pvS (ckN E key) (ckU E key) (E.T j).id g v)).getD x zRw⟩):=rfl
  generalize pvN (ckN E key) (ckU E key) (E.T j).am (E.T j).id g v=m at *;generalize pvS (ckN E key) (ckU E key) (E.T j).id g v=S at *;go_wp2_with fail;refine HW.out.mono ?_;rintro e W3 ⟨i,a2,c2,a3,c3,hpl,rfl,hb3,P1,P2,hP1,hP2,hPP,hT,hR⟩;obtain rfl:=plN_of hpl;replace hT:=OwnTxP.lim hT;replace hR:=OwnRwP.lim hR
  have HF:Hid (∀w7,Writes (w.heap.size+1+1) (w.heap.size+1+2) W3 w7→w7.heap.size=W3.heap.size→ERes2 (wcC E id key v g) 0 (wcE E id key v g) w (.returned (.agg #[.int .i64 0,.int .i64 0,.int .i64 E.nx,.int .i64 E.ck,.slice a2 E.p c2,.slice a3 (wrL E key m S).length c3])) w7):=fun w7 hw hz=>by
    have h1:=HS1.out;have h2:=HB2.out.size;rw [HCC.out,HC0.out,HGE.out,HWR.out];refine ⟨a2,c2,a3,c3,rfl,Writes.below (below_then (below_then HBW.out HB2.out) hb3) hw (by omega),Nat.le_refl _,fun x=>P1 x∧x<W3.heap.size,fun x=>P2 x∧x<W3.heap.size,fun x hx=>?_,fun x hx=>?_,fun x h1 h2=>hPP x h1.1 h2.1,?_,?_⟩
    · have:=hP1 x hx.1;have:=hx.2;omega
    · have:=hP2 x hx.1;have:=hx.2;omega
    · exact OwnTxP.keep hT hw.size fun x hx hl=>hw.block x hl (by have:=hP1 x hx.1;omega)
    · exact OwnRwP.keep hR hw.size fun x hx hl=>hw.block x hl (by have:=hP2 x hx.1;omega)
  have HB3:Hid (Below W2.heap.size W2 W3):=hb3;obtain ⟨r0,r1,r2,r3,r4,r5⟩:=(HR6.out.below HB2.out).below hb3;have rf:∀i,W3.frozen? ⟨w.heap.size+1+1,i,none⟩=false:=fun i=>((bcell2 hb3).2 _ _ (by have:=HS1.out;have:=HB2.out.size;omega)).trans (((bcell2 HB2.out).2 _ _ (by have:=HS1.out;omega)).trans (HRF.out i));have HLN:Hid ((skL (plF E.q E.R key (plN E.R key E.q)) (plN E.R key E.q) ⟨key,m,S⟩ (rwL E)).length=(wrL E key m S).length):=rfl;rw [HLN.out];clear HLN hb3 hP1 hP2 hPP hT hR b0 b1 b2 b3 k0 k1 HW hpl;generalize (wrL E key m S).length=ln at *;go_wp2_with fail;refine leaves_cons (f:=118) (args:=#[.pointer (some ⟨w.heap.size+1+1,0,none⟩)]) (by simp) (by simp [go_sem]) ?_;refine (refD_idle (w.heap.size+1+1) _).mono ?_;rintro e u9 w9 ⟨rfl,rfl,rfl⟩;refine ⟨.agg #[.int .i64 0,.int .i64 0,.int .i64 E.nx,.int .i64 E.ck,.slice a2 E.p c2,.slice a3 ln c3],?_,?_⟩
  · simp [results,Tryz.results66,go_sem, *]
  · refine HF.out _ ?_ (by simp [World.setCell])
    repeat (first | with_reducible exact Writes.refl _ _ _ | with_reducible refine Writes.setCell ?_ (by first | omega | (simp <;> omega)) (by first | omega | (simp <;> omega)) _)
theorem eres_wide {w:World} {lo hi lo' hi':Nat} {a a':Option Addr} {E:En} (h:OwnE2 w lo hi a a' E) (h1:lo'≤lo) (h2:hi≤hi') (h3:hi'≤w.heap.size):OwnE2 w lo' hi' a a' E:=by
  obtain ⟨h0,P,Q,k1,k2,k3,k4,k5⟩:=h;exact ⟨h3,P,Q,fun x hx=>by have:=k1 x hx;omega,fun x hx=>by have:=k2 x hx;omega,k3,k4,k5⟩
set_option maxHeartbeats 4000000 in
theorem implPk_any (E:En) (a:Option Addr) (cap:Nat) (a':Option Addr) (cap':Nat) (id key v:Int) (w:World) (hs:SmallE E) (h:EngAt w a a' E) :
    Calls Tryz.prog 12 #[.agg #[.int .i64 E.nx,.int .i64 E.ck,.slice a E.p cap,.slice a' E.q cap'],.int .i64 id,.int .i64 key,.int .i64 v] w (ERes2 (wcC E id key v false) 0 (wcE E id key v false) w):=by
  have HXA:Hid (EngAt w a a' E):=h;have HS:Hid (SmallE E):=hs;clear h hs
  have HBX:Hid (∀o1 o2:Obj,o1=.cells #[.int .i64 E.nx,.int .i64 E.ck,.slice a E.p cap,.slice a' E.q cap'] 30→o2=.cells #[.int .i64 0,.int .i64 0,.int .i64 0,.int .i64 0,.slice none 0 0,.slice none 0 0] 32→
      Box4 ((w.alloc o1).alloc o2) w.heap.size (.int .i64 E.nx) (.int .i64 E.ck) (.slice a E.p cap) (.slice a' E.q cap')∧Box6 ((w.alloc o1).alloc o2) (w.heap.size+1) (.int .i64 0) (.int .i64 0) (.int .i64 0) (.int .i64 0) (.slice none 0 0) (.slice none 0 0)∧(∀i,((w.alloc o1).alloc o2).frozen? ⟨w.heap.size+1,i,none⟩=false)∧Below w.heap.size w ((w.alloc o1).alloc o2)∧((w.alloc o1).alloc o2).heap.size=w.heap.size+2):=by
    rintro o1 o2 rfl rfl;exact ⟨(Box4.new w _ _ _ _ _).alloc _,by simp [Box6,go_sem],fun i=>by simp [go_sem],((Below.refl _ _).alloc (Nat.le_refl _) _).alloc (by simp) _,by simp⟩
  go_enter Tryz.func12,Tryz.ntmps12;go_wp2_with fail;obtain ⟨hb4,hb2,hbf,hbw,hbs⟩:=HBX.out _ _ rfl rfl;refine (writeCell_any E a cap a' cap' id key v false _ HS.out (HXA.out.below hbw)).mono ?_;rintro e W ⟨a2,c2,a3,c3,rfl,hb1,hown⟩
  have HF:Hid (∀w7,Writes (w.heap.size+1) (w.heap.size+2) W w7→w7.heap.size=W.heap.size→ERes2 (wcC E id key v false) 0 (wcE E id key v false) w (.returned (.agg #[.int .i64 (wcC E id key v false),.int .i64 0,.int .i64 (wcE E id key v false).nx,.int .i64 (wcE E id key v false).ck,.slice a2 (wcE E id key v false).p c2,.slice a3 (wcE E id key v false).q c3])) w7):=fun w7 hw hz=>by
    refine ⟨a2,c2,a3,c3,rfl,Writes.below (below_then hbw hb1) hw (by omega),?_⟩;rw [hbs] at hown;exact eres_wide (hown.writes hw (.inr (Nat.le_refl _))) (by omega) (by have:=hw.size;omega) (Nat.le_refl _)
  obtain ⟨r0,r1,r2,r3,r4,r5⟩:=hb2.below hb1;have rf:∀i,W.frozen? ⟨w.heap.size+1,i,none⟩=false:=fun i=>((bcell2 hb1).2 _ _ (by rw [hbs];omega)).trans (hbf i);clear hb1 hb4 hb2 hbf hbw hbs HBX hown;generalize wcE E id key v false=G at *;generalize wcC E id key v false=c at *;go_wp2_with fail;refine bodyPost_ret (v:=.agg #[.int .i64 c,.int .i64 0,.int .i64 G.nx,.int .i64 G.ck,.slice a2 G.p c2,.slice a3 G.q c3]) (by simp [results,Tryz.results12,go_sem, *]) rfl ?_;refine HF.out _ ?_ (by simp [World.setCell])
  repeat (first | with_reducible exact Writes.refl _ _ _ | with_reducible refine Writes.setCell ?_ (by first | omega | (simp <;> omega)) (by first | omega | (simp <;> omega)) _)
set_option maxHeartbeats 4000000 in
theorem implDk_any (E:En) (a:Option Addr) (cap:Nat) (a':Option Addr) (cap':Nat) (id key:Int) (w:World) (hs:SmallE E) (h:EngAt w a a' E) :
    Calls Tryz.prog 19 #[.agg #[.int .i64 E.nx,.int .i64 E.ck,.slice a E.p cap,.slice a' E.q cap'],.int .i64 id,.int .i64 key] w (ERes2 (wcC E id key 0 true) 0 (wcE E id key 0 true) w):=by
  have HXA:Hid (EngAt w a a' E):=h;have HS:Hid (SmallE E):=hs;clear h hs
  have HBX:Hid (∀o1 o2:Obj,o1=.cells #[.int .i64 E.nx,.int .i64 E.ck,.slice a E.p cap,.slice a' E.q cap'] 30→o2=.cells #[.int .i64 0,.int .i64 0,.int .i64 0,.int .i64 0,.slice none 0 0,.slice none 0 0] 32→
      Box4 ((w.alloc o1).alloc o2) w.heap.size (.int .i64 E.nx) (.int .i64 E.ck) (.slice a E.p cap) (.slice a' E.q cap')∧Box6 ((w.alloc o1).alloc o2) (w.heap.size+1) (.int .i64 0) (.int .i64 0) (.int .i64 0) (.int .i64 0) (.slice none 0 0) (.slice none 0 0)∧(∀i,((w.alloc o1).alloc o2).frozen? ⟨w.heap.size+1,i,none⟩=false)∧Below w.heap.size w ((w.alloc o1).alloc o2)∧((w.alloc o1).alloc o2).heap.size=w.heap.size+2):=by
    rintro o1 o2 rfl rfl;exact ⟨(Box4.new w _ _ _ _ _).alloc _,by simp [Box6,go_sem],fun i=>by simp [go_sem],((Below.refl _ _).alloc (Nat.le_refl _) _).alloc (by simp) _,by simp⟩
  go_enter Tryz.func19,Tryz.ntmps19;go_wp2_with fail;obtain ⟨hb4,hb2,hbf,hbw,hbs⟩:=HBX.out _ _ rfl rfl;refine (writeCell_any E a cap a' cap' id key 0 true _ HS.out (HXA.out.below hbw)).mono ?_;rintro e W ⟨a2,c2,a3,c3,rfl,hb1,hown⟩
  have HF:Hid (∀w7,Writes (w.heap.size+1) (w.heap.size+2) W w7→w7.heap.size=W.heap.size→ERes2 (wcC E id key 0 true) 0 (wcE E id key 0 true) w (.returned (.agg #[.int .i64 (wcC E id key 0 true),.int .i64 0,.int .i64 (wcE E id key 0 true).nx,.int .i64 (wcE E id key 0 true).ck,.slice a2 (wcE E id key 0 true).p c2,.slice a3 (wcE E id key 0 true).q c3])) w7):=fun w7 hw hz=>by
    refine ⟨a2,c2,a3,c3,rfl,Writes.below (below_then hbw hb1) hw (by omega),?_⟩;rw [hbs] at hown;exact eres_wide (hown.writes hw (.inr (Nat.le_refl _))) (by omega) (by have:=hw.size;omega) (Nat.le_refl _)
  obtain ⟨r0,r1,r2,r3,r4,r5⟩:=hb2.below hb1;have rf:∀i,W.frozen? ⟨w.heap.size+1,i,none⟩=false:=fun i=>((bcell2 hb1).2 _ _ (by rw [hbs];omega)).trans (hbf i);clear hb1 hb4 hb2 hbf hbw hbs HBX hown;generalize wcE E id key 0 true=G at *;generalize wcC E id key 0 true=c at *;go_wp2_with fail;refine bodyPost_ret (v:=.agg #[.int .i64 c,.int .i64 0,.int .i64 G.nx,.int .i64 G.ck,.slice a2 G.p c2,.slice a3 G.q c3]) (by simp [results,Tryz.results19,go_sem, *]) rfl ?_;refine HF.out _ ?_ (by simp [World.setCell])
  repeat (first | with_reducible exact Writes.refl _ _ _ | with_reducible refine Writes.setCell ?_ (by first | omega | (simp <;> omega)) (by first | omega | (simp <;> omega)) _)
end Go.Proofs.YtjdodbiphijjgaaGreat
