import Derived.Test.YtjdodbiphijjgaaGreatJVj
import Derived.Deep.RegionLaw
import Derived.Deep.DeepCutAuto
namespace Go.Proofs.YtjdodbiphijjgaaGreat
open Go.RowKit Go.Deep
set_option linter.unusedVariables false
set_option maxRecDepth 20000
theorem set_sz {w3:World} {p:Addr} {v:Value}:(w3.setCell p v).heap.size=w3.heap.size:=by simp [World.setCell]
theorem gr_last {base top:Nat} {w':World} {v:Value} {d:Nat} {R:Nat→Rw} (h:GrRw base top w' v (d+1) (upf R d (R d))) (e:w'.heap.size=top):GrRw base w'.heap.size w' v (d+1) R:=by
  rw [e];refine GrRw.congr h fun i hi=>?_
  by_cases e:i=d
  · subst e;exact upf_eq _ _ _
  · exact upf_ne _ _ e
set_option maxHeartbeats 32000000 in
theorem l6Copy_any (E:En) (a:Option Addr) (cap:Nat) (a':Option Addr) (cap':Nat) (w:World) (hp:E.p≤20) (hq:E.q≤32) (ht:∀i,i<E.p→(E.T i).n≤60) (hr:∀i,i<E.q→(E.R i).n≤12) (h:EngAt w a a' E) :
    Calls Tryz.prog 77 #[.agg #[.int .i64 E.nx,.int .i64 E.ck,.slice a E.p cap,.slice a' E.q cap']] w (CAns E w):=by
  have HX:Hid (EngAt w a a' E):=h;have HT:Hid (∀i,i<E.p→(E.T i).n≤60):=ht;have HR:Hid (∀i,i<E.q→(E.R i).n≤12):=hr;clear h ht hr
  have HI:Hid (∀o1 o2 o3:Obj,o1=.cells #[.int .i64 E.nx,.int .i64 E.ck,.slice a E.p cap,.slice a' E.q cap'] 30→o2=.cells #[.int .i64 0,.int .i64 0,.slice none 0 0,.slice none 0 0] 30→o3=.cells #[.int .i64 E.nx,.int .i64 E.ck,.slice none 0 0,.slice none 0 0] 30→CpE w (((w.alloc o1).alloc o2).alloc o3) a cap a' cap' E (.slice none 0 0) (.slice none 0 0)):=by
    rintro o1 o2 o3 rfl rfl rfl;refine ⟨(((Below.refl _ _).alloc (Nat.le_refl _) _).alloc (by simp) _).alloc (by simp;omega) _,by simp,((Box4.new w _ _ _ _ _).alloc _).alloc _,?_,fun o=>by simp [go_sem],by simp [Box4,go_sem],fun o=>by simp [go_sem]⟩;have h:=(Box4.new (w.alloc (.cells #[.int .i64 E.nx,.int .i64 E.ck,.slice a E.p cap,.slice a' E.q cap'] 30)) (.int .i64 0) (.int .i64 0) (.slice none 0 0) (.slice none 0 0) 30).alloc (.cells #[.int .i64 E.nx,.int .i64 E.ck,.slice none 0 0,.slice none 0 0] 30);rw [World.size_alloc] at h;exact h
  go_enter Tryz.func77,Tryz.ntmps77;go_wp2_with fail;go_loopw [4,5] (fun i _ wr=>∃k:Nat,∃v,k≤E.p∧i=.int .i64 k∧Hid (CpE w wr a cap a' cap' E v (.slice none 0 0))∧Hid (GrTx (w.heap.size+3) wr.heap.size wr v k E.T)) (fun i _ _=>E.p-(intOf i).toNat)
  case atStart=>exact ⟨0,.slice none 0 0,Nat.zero_le _,rfl,HI.out _ _ _ rfl rfl rfl,GrTx.nil _ _ _⟩
  case round=>
    obtain ⟨k,v,hk,rfl,HC,HG⟩:=hrel;have hsz:=HC.out.hsz;obtain ⟨f0,f1,f2,f3⟩:=HC.out.e
    by_cases hlt:k<E.p
    · have hlt':(k:Int)<(E.p:Int):=by omega
      have hk0:(0:Int)≤(k:Int):=(by omega)
      rcases HX.out.1.below HC.out.below with h | ⟨bb,off,rfl,hl,hcc⟩
      · omega
      obtain ⟨ai,ci,⟨x0,x1,x2,x3,x4⟩,hun,-⟩:=hcc k hlt;have HUN:Hid (UndsAt wr ai (E.T k).n (E.T k).U):=hun;have HN:Hid ((E.T k).n≤60):=HT.out k hlt
      have HO:Hid (∀o1:Obj,((wr.alloc o1).alloc (.cells #[] 176)).ownsRow (wr.heap.size+1) 176 4 (.slice (some ⟨wr.heap.size+1,0,none⟩) 0 0) 0 []):=fun o1=>by
        have h:=World.ownsRow_made (base:=wr.heap.size+1) (e:=176) (size:=4) (wr.alloc o1) #[] 0 (by simp) (by unfold maxLen;omega) rfl;rw [World.size_alloc] at h;exact h
      have HAA:Hid (∀o1 o2:Obj,UndsAt ((wr.alloc o1).alloc o2) ai (E.T k).n (E.T k).U):=fun o1 o2=>(HUN.out.below (below_new _ _)).below (below_new _ _);clear hcc hun HI f0 f1 f3;go_wp2_with (at_builtin;refine wpList_appU _ rfl (.tmp 24) (.tmp 26) rfl (wr.heap.size+1) _ [] rfl (HO.out _) ai (E.T k).n ci (E.T k).U rfl (HAA.out _ _) (by have:=HN.out;simp;omega) (by simp) ?_);intro v1 w2 ho1 hg1;have hgw:Writes (wr.heap.size+1) ((wr.alloc (.cells #[.int .i64 (E.T k).id,.int .i64 (E.T k).am,.int .i64 (E.T k).st,.int .i64 (E.T k).dn,.slice ai (E.T k).n ci] 127)).alloc (.cells #[] 176)).heap.size ((wr.alloc (.cells #[.int .i64 (E.T k).id,.int .i64 (E.T k).am,.int .i64 (E.T k).st,.int .i64 (E.T k).dn,.slice ai (E.T k).n ci] 127)).alloc (.cells #[] 176)) w2:=grown_writes hg1 (fun q hq=>((HO.out (.cells #[.int .i64 (E.T k).id,.int .i64 (E.T k).am,.int .i64 (E.T k).st,.int .i64 (E.T k).dn,.slice ai (E.T k).n ci] 127)).lt q hq).1)
      try simp only [List.nil_append] at ho1
      rw [uL_len] at ho1;obtain ⟨a2,c2,rfl,hc2⟩:=row_sliceU ho1;have ho2:=(ownUC_of_row (uL_len _ _) ho1).congr (fun i hi=>uL_getD hi);have hcz:∀i,w2.cell? ⟨wr.heap.size,i,none⟩=((wr.alloc (.cells #[.int .i64 (E.T k).id,.int .i64 (E.T k).am,.int .i64 (E.T k).st,.int .i64 (E.T k).dn,.slice ai (E.T k).n ci] 127)).alloc (.cells #[] 176)).cell? ⟨wr.heap.size,i,none⟩:=fun i=>hgw.cell (by simp;omega) (by omega) i;have t0:w2.cell? ⟨wr.heap.size,0,none⟩=some (.int .i64 (E.T k).id):=(by rw [hcz];simp [go_sem]);have t1:w2.cell? ⟨wr.heap.size,1,none⟩=some (.int .i64 (E.T k).am):=(by rw [hcz];simp [go_sem]);have t2:w2.cell? ⟨wr.heap.size,2,none⟩=some (.int .i64 (E.T k).st):=(by rw [hcz];simp [go_sem]);have t3:w2.cell? ⟨wr.heap.size,3,none⟩=some (.int .i64 (E.T k).dn):=(by rw [hcz];simp [go_sem]);have t4:w2.cell? ⟨wr.heap.size,4,none⟩=some (.slice ai (E.T k).n ci):=(by rw [hcz];simp [go_sem])
      have tf:∀i,w2.frozen? ⟨wr.heap.size,i,none⟩=false:=fun i=>by
        rw [World.frozen?_of_block (w:=((wr.alloc (.cells #[.int .i64 (E.T k).id,.int .i64 (E.T k).am,.int .i64 (E.T k).st,.int .i64 (E.T k).dn,.slice ai (E.T k).n ci] 127)).alloc (.cells #[] 176))) (a:=⟨wr.heap.size,i,none⟩) (hgw.block wr.heap.size (by simp;omega) (.inl (by omega)))];simp [go_sem]
      have HB2:Hid (Below wr.heap.size wr w2):=by
        have hb1:Below wr.heap.size wr ((wr.alloc (.cells #[.int .i64 (E.T k).id,.int .i64 (E.T k).am,.int .i64 (E.T k).st,.int .i64 (E.T k).dn,.slice ai (E.T k).n ci] 127)).alloc (.cells #[] 176)):=((Below.refl _ _).alloc (Nat.le_refl _) _).alloc (by simp) _;exact Writes.below hb1 hgw (by omega)
      have HO2:Hid (OwnUC w2 (wr.heap.size+1) w2.heap.size a2 c2 (E.T k).n (E.T k).U):=ho2;have HC2c:Hid ((E.T k).n≤c2):=hc2;have hs2:wr.heap.size+2≤w2.heap.size:=(by have:=hgw.size;simp at this;omega);have hwS:Writes wr.heap.size (wr.heap.size+1) w2 (w2.setCell ⟨wr.heap.size,4,none⟩ (.slice a2 (E.T k).n c2)):=Writes.setCell (Writes.refl _ _ _) (p:=⟨wr.heap.size,4,none⟩) (Nat.le_refl _) (Nat.lt_succ_self _) _;have hzS:(w2.setCell ⟨wr.heap.size,4,none⟩ (.slice a2 (E.T k).n c2)).heap.size=w2.heap.size:=(by simp [World.setCell]);have HCS:Hid (∀o:Obj,CpE w ((w2.setCell ⟨wr.heap.size,4,none⟩ (.slice a2 (E.T k).n c2)).alloc o) (some ⟨bb,off,none⟩) cap a' cap' E v (.slice none 0 0)):=fun o=>((HC.out.mono HB2.out).far hwS hsz).mono (below_new _ _);have HGS:Hid (∀o:Obj,GrTx (w.heap.size+3) wr.heap.size ((w2.setCell ⟨wr.heap.size,4,none⟩ (.slice a2 (E.T k).n c2)).alloc o) v k E.T):=fun o=>((HG.out.below HB2.out).writes hwS (.inr (Nat.le_refl _))).below (below_new _ _);have HOS:Hid (∀o:Obj,OwnUC ((w2.setCell ⟨wr.heap.size,4,none⟩ (.slice a2 (E.T k).n c2)).alloc o) (wr.heap.size+1) w2.heap.size a2 c2 (E.T k).n (E.T k).U):=fun o=>(HO2.out.writes hwS (.inr (by omega))).below (below_new _ _);have HZS:Hid ((w2.setCell ⟨wr.heap.size,4,none⟩ (.slice a2 (E.T k).n c2)).heap.size=w2.heap.size):=hzS;have bb2:(w2.setCell ⟨wr.heap.size,4,none⟩ (.slice a2 (E.T k).n c2)).cell? ⟨w.heap.size+2,2,none⟩=some v:=((HC.out.mono HB2.out).far hwS hsz).b.2.2.1
      have hvg:Hid (∀q,v.ownBlock=some q→w.heap.size+3≤q):=fun q hq=>by
        obtain ⟨_,_,_,_,_,ho,_⟩:=HG.out;exact (ho.lt q hq).1
      clear hcz hgw ho1 hg1 ho2 hc2 hwS hzS x0 x1 x2 x3 x4 HUN HC HG HB2 HO2 HO HAA f2;go_wp2_with (at_builtin;refine wpList_grTx _ rfl (.tmp 30) (.tmp 32) rfl (w.heap.size+3) wr.heap.size v k E.T rfl (HGS.out _) w2.heap.size 0 1 (E.T k) a2 c2 (wr.heap.size+1) w2.heap.size rfl (lit_tx (E.T k) HZS.out) (.inr ⟨by omega,by rw [World.size_alloc,HZS.out];omega⟩) (by omega) HC2c.out (HOS.out _) (by omega) ?_);intro g cap2 w3 hgr hg;have hcp:=(HCS.out _).far (grown_writes hg hvg.out) (Nat.le_refl _);obtain ⟨-,-,c22,-⟩:=hcp.b;have cf2:=hcp.bf;have HC3:Hid (CpE w (w3.setCell ⟨w.heap.size+2,2,none⟩ (.slice (some ⟨g,0,none⟩) (k+1) cap2)) (some ⟨bb,off,none⟩) cap a' cap' E (.slice (some ⟨g,0,none⟩) (k+1) cap2) (.slice none 0 0)):=hcp.setT _
      have HG3:Hid (GrTx (w.heap.size+3) (w3.setCell ⟨w.heap.size+2,2,none⟩ (.slice (some ⟨g,0,none⟩) (k+1) cap2)).heap.size (w3.setCell ⟨w.heap.size+2,2,none⟩ (.slice (some ⟨g,0,none⟩) (k+1) cap2)) (.slice (some ⟨g,0,none⟩) (k+1) cap2) (k+1) E.T):=by
        have hz:(w3.setCell ⟨w.heap.size+2,2,none⟩ (.slice (some ⟨g,0,none⟩) (k+1) cap2)).heap.size=w3.heap.size:=(by simp [World.setCell]);show GrTx _ _ _ _ _ _;rw [hz];refine GrTx.congr (hgr.writes (Writes.setCell (Writes.refl (w.heap.size+2) (w.heap.size+3) _) (p:=⟨w.heap.size+2,2,none⟩) (Nat.le_refl _) (Nat.lt_succ_self _) _) (.inl (Nat.le_refl _))) fun i hi=>?_
        by_cases e:i=k
        · subst e;exact upf_eq _ _ _
        · exact upf_ne _ _ e
      clear hcp hgr hg HCS HGS HOS HZS t0 t1 t2 t3 t4 tf bb2 hvg;go_wp2_with fail;go_roundw
      case rel=>exact ⟨k+1,_,hlt,by go_num,HC3,HG3⟩
      case measure=>simp [intOf];omega
    · have hkn:k=E.p:=by omega
      have hnl:¬((k:Int)<(E.p:Int)):=(by omega);have HG1:Hid (GrTx (w.heap.size+3) wr.heap.size wr v E.p E.T):=(by rw [hkn] at HG;exact HG);clear HG HI;go_wp2_with fail;clear f0 f1 f2 f3;obtain ⟨w1,rfl⟩:∃x,x=wr:=⟨wr,rfl⟩;go_loopw [6] (fun i wy=>∃k:Nat,∃v',k≤E.q∧i=.int .i64 k∧Hid (CpE w wy a cap a' cap' E v v')∧Hid (GrTx (w.heap.size+3) w1.heap.size wy v E.p E.T)∧Hid (GrRw w1.heap.size wy.heap.size wy v' k E.R)) (fun i _=>E.q-(intOf i).toNat)
      case atStart=>exact ⟨0,.slice none 0 0,Nat.zero_le _,rfl,HC,HG1,GrRw.nil _ _ _⟩
      case round=>
        clear hk hkn hnl hlt HC HG1;obtain ⟨d,v',hk,rfl,HC,HG1,HG⟩:=hrel;have hM:w.heap.size+3≤w1.heap.size:=hsz;have hsz2:=HC.out.hsz;have hMw:w1.heap.size≤wr.heap.size:=HG1.out.1;obtain ⟨f0,f1,f2,f3⟩:=HC.out.e
        by_cases hlt:d<E.q
        · have hlt':(d:Int)<(E.q:Int):=by omega
          have hk0:(0:Int)≤(d:Int):=(by omega)
          rcases HX.out.2.below HC.out.below with h | ⟨bb,off,rfl,hl,hcc⟩
          · omega
          obtain ⟨ai,ci,⟨x0,x1⟩,hun,-⟩:=hcc d hlt;have HUN:Hid (VersAt wr ai (E.R d).n (E.R d).U):=hun;have HN:Hid ((E.R d).n≤12):=HR.out d hlt;have c3:=HC.out.b.2.2.2
          have hvg:Hid (∀q,v'.ownBlock=some q→w1.heap.size≤q):=fun q hq=>by
            obtain ⟨_,_,_,_,_,ho,_⟩:=HG.out;exact (ho.lt q hq).1
          have HLT:Hid (d<E.q):=hlt;have HDZ:Hid (wr.drew.heap.size=wr.heap.size):=(by simp [Hid])
          have HFIN:Hid (∀(w2:World) (o:Obj) (g cap2:Nat) (w3:World),Below wr.heap.size wr w2→GrRw w1.heap.size w3.heap.size w3 (.slice (some ⟨g,0,none⟩) (d+1) cap2) (d+1) (upf E.R d (E.R d))→(w2.alloc o).grownBy w3 v'.ownBlock→w3.cell? ⟨w.heap.size+2,3,none⟩=some v'∧(∀i,w3.frozen? ⟨w.heap.size+2,i,none⟩=false)∧Hid (CpE w (w3.setCell ⟨w.heap.size+2,3,none⟩ (.slice (some ⟨g,0,none⟩) (d+1) cap2)) a cap (some ⟨bb,off,none⟩) cap' E v (.slice (some ⟨g,0,none⟩) (d+1) cap2))∧Hid (GrTx (w.heap.size+3) w1.heap.size (w3.setCell ⟨w.heap.size+2,3,none⟩ (.slice (some ⟨g,0,none⟩) (d+1) cap2)) v E.p E.T)∧Hid (GrRw w1.heap.size (w3.setCell ⟨w.heap.size+2,3,none⟩ (.slice (some ⟨g,0,none⟩) (d+1) cap2)).heap.size (w3.setCell ⟨w.heap.size+2,3,none⟩ (.slice (some ⟨g,0,none⟩) (d+1) cap2)) (.slice (some ⟨g,0,none⟩) (d+1) cap2) (d+1) E.R)):=fun w2 o g cap2 w3 hb2 hgr hg=>by
            have hwg:=grown_writes hg hvg.out;have hcp:=((HC.out.mono hb2).mono (below_new _ _)).far hwg hM;have hwF:Writes (w.heap.size+2) (w.heap.size+3) w3 (w3.setCell ⟨w.heap.size+2,3,none⟩ (.slice (some ⟨g,0,none⟩) (d+1) cap2)):=Writes.setCell (Writes.refl (w.heap.size+2) (w.heap.size+3) _) (p:=⟨w.heap.size+2,3,none⟩) (Nat.le_refl _) (Nat.lt_succ_self _) _;exact ⟨hcp.b.2.2.2,hcp.bf,hcp.setR _,(((HG1.out.below hb2).below (below_new _ _)).writes hwg (.inr (Nat.le_refl _))).writes hwF (.inl (Nat.le_refl _)),gr_last (hgr.writes hwF (.inl hM)) set_sz⟩
          have HCAL:Hid (∀wx,Below wr.heap.size wr wx→wx.heap.size=wr.heap.size→Calls Tryz.prog 139 #[.slice ai (E.R d).n ci] wx fun e w2=>∃a2 c2,e=.returned (.slice a2 (E.R d).n c2)∧Hid (Below wr.heap.size wr w2∧Own4 w2 wr.heap.size w2.heap.size a2 (E.R d).n (E.R d).U∧(E.R d).n≤c2)):=fun wx hx hz=>by
            refine (l5Copy_anyw (E.R d).n (E.R d).U ai ci wx (by have:=HN.out;omega) (HUN.out.below hx)).mono ?_;rintro e w2 ⟨a2,c2,rfl,hb2,ho2,hc2⟩;rw [hz] at ho2;exact ⟨a2,c2,rfl,below_then hx hb2,ho2,hc2⟩
          have HGA:Hid (∀(w2:World) (o:Obj),Below wr.heap.size wr w2→GrRw w1.heap.size wr.heap.size (w2.alloc o) v' d E.R):=fun w2 o hb=>(HG.out.below hb).below (below_new _ _);clear hcc hun f0 f1 f2 HUN HN HC HG HG1 hvg;go_upto_region 11 with fail;go_region_law (first | (go_simp;go_at_call 139;refine (HCAL.out _ ((Below.refl _ _).drew) HDZ.out).mono ?_;rintro e w2 ⟨a2,c2,rfl,HB2⟩;have hs2:wr.heap.size≤w2.heap.size:=HB2.out.1.size;have g3:=cell_below f3 HB2.out.1;have g3':=fun o:Obj=>cell_alloc g3 o;have y0:=cell_below x0 HB2.out.1;have y0':=fun o:Obj=>cell_alloc y0 o;have d3:=cell_below c3 HB2.out.1;have d3':=fun o:Obj=>cell_alloc d3 o) | (refine step_grRw _ rfl (.tmp 43) (.tmp 58) rfl w1.heap.size wr.heap.size v' d E.R rfl (HGA.out _ _ HB2.out.1) w2.heap.size 0 1 (E.R d) a2 c2 wr.heap.size w2.heap.size rfl (lit_rw (E.R d) rfl) (.inr ⟨Nat.le_refl _,by rw [World.size_alloc];omega⟩) (by omega) HB2.out.2.2 (HB2.out.2.1.below (below_new _ _)) (by omega) ?_;intro g cap2 w3 hgr hg;obtain ⟨c22,cf2,HC3,HGT3,HG3⟩:=HFIN.out _ _ _ _ _ HB2.out.1 hgr hg;clear hgr hg g3 g3' y0 y0' d3 d3'))
          all_goals
            clear HFIN HCAL HGA c3 f3 x0 x1;go_wp2_with fail;go_roundw
            case rel=>exact ⟨d+1,_,HLT.out,by go_num,HC3,HGT3,HG3⟩
            case measure=>simp [intOf];omega
        · have hkn:d=E.q:=by omega
          subst hkn;have hnl:¬((E.q:Int)<(E.q:Int)):=(by omega);obtain ⟨va,vc,rfl,-,-⟩:=HG1.out.own;obtain ⟨va',vc',rfl,-,-⟩:=HG.out.own;obtain ⟨b0,b1,b2,b3⟩:=HC.out.b;obtain ⟨r0,r1,r2,r3⟩:=HC.out.r;have rf:=HC.out.rf;have HBF:=HC.out.below
          have HF:Hid (∀w7,Writes (w.heap.size+1) (w.heap.size+2) wr w7→w7.heap.size=wr.heap.size→CAns E w (.returned (.agg #[.int .i64 E.nx,.int .i64 E.ck,.slice va E.p vc,.slice va' E.q vc'])) w7):=fun w7 hw hs=>by
            refine ⟨_,_,w.heap.size+3,w1.heap.size,rfl,Writes.below HBF hw (by omega),by omega,hM,HG1.out.writes hw (.inl (by omega)),?_⟩;rw [hs];exact HG.out.writes hw (.inl (by omega))
          clear HC HG HG1 HBF;go_wp2_with fail;refine bodyPost_ret (v:=.agg #[.int .i64 E.nx,.int .i64 E.ck,.slice va E.p vc,.slice va' E.q vc']) (by simp [results,Tryz.results77,go_sem, *]) rfl ?_;refine HF.out _ ?_ (by simp [World.setCell])
          repeat (first | with_reducible exact Writes.refl _ _ _ | with_reducible refine Writes.setCell ?_ (by first | omega | (simp <;> omega)) (by first | omega | (simp <;> omega)) _)
end Go.Proofs.YtjdodbiphijjgaaGreat
