import Derived.Test.YtjdodbiphijjgaaGreatJNa
import Derived.Deep.RegionLaw
namespace Go.Proofs.YtjdodbiphijjgaaGreat
open Go.RowKit Go.Deep
set_option linter.unusedVariables false
set_option maxRecDepth 20000
theorem l6Bad_any (c:Int) (w:World):Calls Tryz.prog 60 #[.int .i64 c] w fun e w'=>e=.returned (.agg #[.int .i64 c,.int .i64 0,.int .i64 0,.int .i64 0,.slice none 0 0,.slice none 0 0])∧Below w.heap.size w w':=by
  go_enter Tryz.func60,Tryz.ntmps60;go_wp2_with fail;refine bodyPost_ret (v:=.agg #[.int .i64 c,.int .i64 0,.int .i64 0,.int .i64 0,.slice none 0 0,.slice none 0 0]) (by simp [results,Tryz.results60,go_sem]) rfl ⟨rfl,?_⟩
  repeat (first | with_reducible exact Below.refl _ _ | with_reducible refine Below.setCell ?_ (by first | omega | (simp <;> omega)) _ | with_reducible refine Below.alloc ?_ (by first | omega | (simp <;> omega)) _)
theorem NEi.bad {w wr w7:World} {B:Nat} {v:Value} {k:Nat} {K V:Nat→Int} {ck c:Int} (h:NEi w wr B v k K V ck) (hb:Below wr.heap.size wr w7) :
    (w7.cell? ⟨w.heap.size,0,none⟩=some (.int .i64 0)∧w7.cell? ⟨w.heap.size,1,none⟩=some (.int .i64 0)∧w7.cell? ⟨w.heap.size,2,none⟩=some (.int .i64 0)∧w7.cell? ⟨w.heap.size,3,none⟩=some (.int .i64 0)∧w7.cell? ⟨w.heap.size,4,none⟩=some (.slice none 0 0)∧w7.cell? ⟨w.heap.size,5,none⟩=some (.slice none 0 0))∧(∀i,w7.frozen? ⟨w.heap.size,i,none⟩=false)∧Below w.heap.size w w7:=by
  have g:=h.mono hb;exact ⟨⟨g.r0,g.r1,g.r2,g.r3,g.r4,g.r5⟩,g.rf,g.below⟩
set_option maxHeartbeats 8000000 in
theorem specNe_some (n:Nat) (K V:Nat→Int) (a:Option Addr) (cap:Nat) (w:World) (hn:n≤20) (C:Int) (hC:cff K V n 0=C) (h:CellsAt w a n K V) (E:En) (hE1:C=0→E=neE n K V) (hE2:C≠0→E=zEn) :
    Calls Tryz.prog 85 #[.slice a n cap] w (ERes C 0 E w):=by
  have HA:Hid (CellsAt w a n K V):=h;have hn':¬((20:Int)<(n:Int)):=(by omega)
  have HF:Hid (∀c w',C=c→c≠0→Below w.heap.size w w'→ERes C 0 E w (.returned (.agg #[.int .i64 c,.int .i64 0,.int .i64 0,.int .i64 0,.slice none 0 0,.slice none 0 0])) w'):=by
    intro c w' e h0 hb;subst e;rw [hE2 h0];exact eres_bad hb
  have HG:Hid (C=0→E=neE n K V):=hE1;clear h hE1 hE2;go_enter Tryz.func85,Tryz.ntmps85;go_wp2_with fail;go_loopw [4] (fun i wr=>∃k:Nat,∃v,k≤n∧i=.int .i64 k∧Hid (C=cff K V (n-k) k)∧Hid (NEi w wr (w.heap.size+1) v k K V (if k=0 then 0 else 1))) (fun i _=>n-(intOf i).toNat)
  case atStart=>
    refine ⟨0,.slice none 0 0,Nat.zero_le _,rfl,hC.symm,⟨((Below.refl _ _).alloc (Nat.le_refl _) _).alloc (by simp) _,Nat.lt_succ_self _,by simp,by simp [go_sem],by simp [go_sem],by simp [go_sem],by simp [go_sem],fun o=>by simp [go_sem],by simp [go_sem],by simp [go_sem],by simp [go_sem],by simp [go_sem],by simp [go_sem],by simp [go_sem],fun o=>by simp [go_sem],GrRw.nil _ _ _⟩⟩
  case round=>
    obtain ⟨k,v,hk,rfl,HC,HR⟩:=hrel
    by_cases hlt:k<n
    · have hlt':(k:Int)<(n:Int):=by omega
      have hk0:(0:Int)≤(k:Int):=(by omega)
      rcases HA.out.below HR.out.below with h | ⟨b,off,rfl,hl,hKK,hVV⟩
      · omega
      have q0:=hKK k hlt;have q1:=hVV k hlt;have HKK:Hid (∀i,i<n→wr.cell? ⟨b,off+i*2,none⟩=some (.int .i64 (K i))):=hKK;have HA2:Hid (C=_):=HC.out.trans (cff_at hlt);have c1:=HR.out.e1;have c3:=HR.out.e3;have cf:=HR.out.ef;have hB:=HR.out.hsz;clear HC hKK hVV
      by_cases hc1:inB (K k) 0 31=true
      · by_cases hc2:inB (V k) 0 9999=true
        · -- the row is appended
          rcases Nat.eq_zero_or_pos k with hk9 | hpos
          · have hd:decide (0<k)=false:=by simp;omega
            have HC2:Hid (C=cff K V (n-(k+1)) (k+1)):=by
              refine HA2.out.trans ?_;rw [if_neg (by simp [hc1,hc2]),if_neg (by omega)]
            clear HA2 hk9;go_wp2_with (first | (go_at_call 61;refine (l1Key_any _ _).mono ?_;rintro e w' ⟨rfl,rfl⟩) | (go_at_call 62;refine (l1Value_any _ _).mono ?_;rintro e w' ⟨rfl,rfl⟩));go_quiet (fail);go_wp2_with fail;have HR2:Hid (NEi w (w'.drewN nq) (w.heap.size+1) v k K V (if k=0 then 0 else 1)):=HR.out.mono (below_drewN (Below.refl _ _) _);have q2:(w'.drewN nq).cell? ⟨b,off+k*2,none⟩=some (.int .i64 (K k)):=cell_below q0 (below_drewN (Below.refl _ _) _);have q3:(w'.drewN nq).cell? ⟨b,off+k*2+1,none⟩=some (.int .i64 (V k)):=cell_below q1 (below_drewN (Below.refl _ _) _);generalize w'.drewN nq=W at *;have c1:=HR2.out.e1;have c3:=HR2.out.e3;have cf:=HR2.out.ef;have hsW:=HR2.out.hsz;have HGG:Hid (∀o3 o4:Obj,GrRw (w.heap.size+1+1) W.heap.size ((W.drew.alloc o3).alloc o4) v k (rnE K V)):=fun o3 o4=>((HR2.out.gr.below ((Below.refl _ _).drew)).below (below_new _ _)).below (below_new _ _);have HNN:Hid (∀o3 o4:Obj,NEi w ((W.drew.alloc o3).alloc o4) (w.heap.size+1) v k K V (if k=0 then 0 else 1)):=fun o3 o4=>((HR2.out.mono ((Below.refl _ _).drew)).mono (below_new _ _)).mono (below_new _ _);have HSW:Hid (W.drew.heap.size=W.heap.size):=(by simp [Hid]);have d3:=fun o:Obj=>cell_alloc c3 o;have d5:=fun o:Obj=>cell_alloc q2 o;have d6:=fun o:Obj=>cell_alloc q3 o;have d7:=fun o o':Obj=>cell_alloc (cell_alloc q2 o) o';have d4:=fun o o':Obj=>cell_alloc (cell_alloc c3 o) o';have hne:¬(w.heap.size+1=W.heap.size):=(by omega);have e1:(if k+1=0 then (0:Int) else 1)=1:=(by simp);have HLT:Hid (k<n):=hlt;clear HR HR2 q0 q1;go_region_law (first | (refine step_grRw _ rfl (.tmp 51) (.tmp 65) rfl (w.heap.size+1+1) W.heap.size v k (rnE K V) rfl (HGG.out _ _) (W.heap.size+1) 0 1 (rnE K V k) (some ⟨W.heap.size,0,none⟩) 1 W.heap.size (W.heap.size+1) rfl (lit_row (K k) ⟨1,1,false,V k⟩ HSW.out rfl).1 (.inr ⟨Nat.le_refl _,by simp⟩) (by omega) (Nat.le_refl _) (lit_row (K k) ⟨1,1,false,V k⟩ HSW.out rfl).2 (by omega) ?_;intro g cap' w2 hgr hg;obtain ⟨hn2,c32,cf2,c12⟩:=NEi.app (HNN.out _ _) hg hgr;have HN2:Hid (NEi w (w2.setCell ⟨w.heap.size+1,3,none⟩ (.slice (some ⟨g,0,none⟩) (k+1) cap')) (w.heap.size+1) (.slice (some ⟨g,0,none⟩) (k+1) cap') (k+1) K V (if k=0 then 0 else 1)):=hn2;clear hn2 hgr hg))
            all_goals
              go_wp2_with fail;go_roundw
              case rel=>exact ⟨k+1,_,HLT.out,by go_num,HC2,by rw [e1];exact HN2.out.clock⟩
              case measure=>simp [intOf];omega
          · obtain ⟨j,rfl⟩:∃j,k=j+1:=⟨k-1,by omega⟩;have h3:=HKK.out j (by omega);have hj1:(j:Int)<(n:Int):=(by omega);have hj2:j<n:=(by omega);have hj8:(j:Int)+1<(n:Int):=(by omega);have hj7:(0:Int)≤(j:Int)+1:=(by omega);have hwj:IntKind.i64.wrap (j:Int)=(j:Int):=(by rw [IntKind.wrap_i64];omega)
            by_cases hc3:K (j+1)≤K j
            · have HC2:Hid (C=1):=by
                refine HA2.out.trans ?_;rw [if_neg (by simp [hc1,hc2]),if_pos ⟨by omega,by simpa using hc3⟩]
              clear HA2;go_wp2_with (first | (go_at_call 61;refine (l1Key_any _ _).mono ?_;rintro e w' ⟨rfl,rfl⟩) | (go_at_call 62;refine (l1Value_any _ _).mono ?_;rintro e w' ⟨rfl,rfl⟩));go_quiet (fail);go_wp2_with fail;refine (l6Bad_any 1 _).mono ?_;rintro e w7 ⟨rfl,hb7⟩;obtain ⟨⟨r0,r1,r2,r3,r4,r5⟩,rf,hbw⟩:=NEi.bad (c:=1) (HR.out.mono (below_drewN (Below.refl _ _) _)) hb7;have HBW:Hid (Below w.heap.size w w7):=hbw;clear hb7 hbw HR;go_wp2_with fail;refine bodyPost_ret (v:=.agg #[.int .i64 1,.int .i64 0,.int .i64 0,.int .i64 0,.slice none 0 0,.slice none 0 0]) (by simp [results,Tryz.results85,go_sem, *]) rfl ?_;refine HF.out 1 _ HC2.out (by decide) ?_
              repeat (first | with_reducible exact HBW.out | with_reducible refine Below.setCell ?_ (by first | omega | (simp <;> omega)) _)
            · have HC2:Hid (C=cff K V (n-(j+1+1)) (j+1+1)):=by
                refine HA2.out.trans ?_;rw [if_neg (by simp [hc1,hc2]),if_neg (by simp;omega)]
              have hc4:decide (K (j+1)≤K j)=false:=(by simp;omega);clear HA2;go_wp2_with (first | (go_at_call 61;refine (l1Key_any _ _).mono ?_;rintro e w' ⟨rfl,rfl⟩) | (go_at_call 62;refine (l1Value_any _ _).mono ?_;rintro e w' ⟨rfl,rfl⟩));go_quiet (fail);go_wp2_with fail;have HR2:Hid (NEi w (w'.drewN nq) (w.heap.size+1) v (j+1) K V (if (j+1)=0 then 0 else 1)):=HR.out.mono (below_drewN (Below.refl _ _) _);have q2:(w'.drewN nq).cell? ⟨b,off+(j+1)*2,none⟩=some (.int .i64 (K (j+1))):=cell_below q0 (below_drewN (Below.refl _ _) _);have q3:(w'.drewN nq).cell? ⟨b,off+(j+1)*2+1,none⟩=some (.int .i64 (V (j+1))):=cell_below q1 (below_drewN (Below.refl _ _) _);generalize w'.drewN nq=W at *;have c1:=HR2.out.e1;have c3:=HR2.out.e3;have cf:=HR2.out.ef;have hsW:=HR2.out.hsz;have HGG:Hid (∀o3 o4:Obj,GrRw (w.heap.size+1+1) W.heap.size ((W.drew.alloc o3).alloc o4) v (j+1) (rnE K V)):=fun o3 o4=>((HR2.out.gr.below ((Below.refl _ _).drew)).below (below_new _ _)).below (below_new _ _);have HNN:Hid (∀o3 o4:Obj,NEi w ((W.drew.alloc o3).alloc o4) (w.heap.size+1) v (j+1) K V (if (j+1)=0 then 0 else 1)):=fun o3 o4=>((HR2.out.mono ((Below.refl _ _).drew)).mono (below_new _ _)).mono (below_new _ _);have HSW:Hid (W.drew.heap.size=W.heap.size):=(by simp [Hid]);have d3:=fun o:Obj=>cell_alloc c3 o;have d5:=fun o:Obj=>cell_alloc q2 o;have d6:=fun o:Obj=>cell_alloc q3 o;have d7:=fun o o':Obj=>cell_alloc (cell_alloc q2 o) o';have d4:=fun o o':Obj=>cell_alloc (cell_alloc c3 o) o';have hne:¬(w.heap.size+1=W.heap.size):=(by omega);have e1:(if (j+1)+1=0 then (0:Int) else 1)=1:=(by simp);have HLT:Hid ((j+1)<n):=hlt;clear HR HR2 q0 q1;go_region_law (first | (refine step_grRw _ rfl (.tmp 51) (.tmp 65) rfl (w.heap.size+1+1) W.heap.size v (j+1) (rnE K V) rfl (HGG.out _ _) (W.heap.size+1) 0 1 (rnE K V (j+1)) (some ⟨W.heap.size,0,none⟩) 1 W.heap.size (W.heap.size+1) rfl (lit_row (K (j+1)) ⟨1,1,false,V (j+1)⟩ HSW.out rfl).1 (.inr ⟨Nat.le_refl _,by simp⟩) (by omega) (Nat.le_refl _) (lit_row (K (j+1)) ⟨1,1,false,V (j+1)⟩ HSW.out rfl).2 (by omega) ?_;intro g cap' w2 hgr hg;obtain ⟨hn2,c32,cf2,c12⟩:=NEi.app (HNN.out _ _) hg hgr;have HN2:Hid (NEi w (w2.setCell ⟨w.heap.size+1,3,none⟩ (.slice (some ⟨g,0,none⟩) ((j+1)+1) cap')) (w.heap.size+1) (.slice (some ⟨g,0,none⟩) ((j+1)+1) cap') ((j+1)+1) K V (if (j+1)=0 then 0 else 1)):=hn2;clear hn2 hgr hg))
              all_goals
                go_wp2_with fail;go_roundw
                case rel=>exact ⟨(j+1)+1,_,HLT.out,by go_num,HC2,by rw [e1];exact HN2.out.clock⟩
                case measure=>simp [intOf];omega
        · have hc4:inB (V k) 0 9999=false:=by simpa using hc2
          clear hc2
          have HC2:Hid (C=3):=by
            refine HA2.out.trans ?_;rw [if_pos (.inr hc4)]
          clear HA2;go_wp2_with (first | (go_at_call 61;refine (l1Key_any _ _).mono ?_;rintro e w' ⟨rfl,rfl⟩) | (go_at_call 62;refine (l1Value_any _ _).mono ?_;rintro e w' ⟨rfl,rfl⟩));refine (l6Bad_any 3 _).mono ?_;rintro e w7 ⟨rfl,hb7⟩;obtain ⟨⟨r0,r1,r2,r3,r4,r5⟩,rf,hbw⟩:=NEi.bad (c:=3) HR.out hb7;have HBW:Hid (Below w.heap.size w w7):=hbw;clear hb7 hbw HR;go_wp2_with fail;refine bodyPost_ret (v:=.agg #[.int .i64 3,.int .i64 0,.int .i64 0,.int .i64 0,.slice none 0 0,.slice none 0 0]) (by simp [results,Tryz.results85,go_sem, *]) rfl ?_;refine HF.out 3 _ HC2.out (by decide) ?_
          repeat (first | with_reducible exact HBW.out | with_reducible refine Below.setCell ?_ (by first | omega | (simp <;> omega)) _)
      · have hc4:inB (K k) 0 31=false:=by simpa using hc1
        clear hc1
        have HC2:Hid (C=3):=by
          refine HA2.out.trans ?_;rw [if_pos (.inl hc4)]
        clear HA2;go_wp2_with (first | (go_at_call 61;refine (l1Key_any _ _).mono ?_;rintro e w' ⟨rfl,rfl⟩) | (go_at_call 62;refine (l1Value_any _ _).mono ?_;rintro e w' ⟨rfl,rfl⟩));refine (l6Bad_any 3 _).mono ?_;rintro e w7 ⟨rfl,hb7⟩;obtain ⟨⟨r0,r1,r2,r3,r4,r5⟩,rf,hbw⟩:=NEi.bad (c:=3) HR.out hb7;have HBW:Hid (Below w.heap.size w w7):=hbw;clear hb7 hbw HR;go_wp2_with fail;refine bodyPost_ret (v:=.agg #[.int .i64 3,.int .i64 0,.int .i64 0,.int .i64 0,.slice none 0 0,.slice none 0 0]) (by simp [results,Tryz.results85,go_sem, *]) rfl ?_;refine HF.out 3 _ HC2.out (by decide) ?_
        repeat (first | with_reducible exact HBW.out | with_reducible refine Below.setCell ?_ (by first | omega | (simp <;> omega)) _)
    · have hkn:k=n:=by omega
      subst hkn
      have hC0:C=0:=by
        refine HC.out.trans ?_;rw [Nat.sub_self,cff]
      have hnl:¬((k:Int)<(k:Int)):=(by omega);obtain ⟨a5,cap5,rfl,-⟩:=HR.out.gr.own;obtain ⟨-,hB,hsz,e0,e1,e2,e3,ef,r0,r1,r2,r3,r4,r5,rf,-⟩:=HR.out
      have HFF:Hid (∀w7,Writes w.heap.size (w.heap.size+1) wr w7→w7.heap.size=wr.heap.size→ERes C 0 E w (.returned (.agg #[.int .i64 0,.int .i64 0,.int .i64 2,.int .i64 (if k=0 then 0 else 1),.slice none 0 0,.slice a5 k cap5])) w7):=fun w7 h1 h2=>by
        rw [HG.out hC0,hC0];exact HR.out.fin rfl h1 h2
      generalize (if k=0 then (0:Int) else 1)=ck at *;clear HR HC HG hC0 HF;go_wp2_with fail;refine bodyPost_ret (v:=.agg #[.int .i64 0,.int .i64 0,.int .i64 2,.int .i64 ck,.slice none 0 0,.slice a5 k cap5]) (by simp [results,Tryz.results85,go_sem, *]) rfl ?_;refine HFF.out _ ?_ (by simp [World.setCell])
      repeat (first | with_reducible exact Writes.refl _ _ _ | with_reducible refine Writes.setCell ?_ (by first | omega | (simp <;> omega)) (by first | omega | (simp <;> omega)) _)
theorem specNe_many (n:Nat) (a:Option Addr) (cap:Nat) (w:World) (hn:20<n) :
    Calls Tryz.prog 85 #[.slice a n cap] w (ERes 2 0 zEn w):=by
  have hn':(20:Int)<(n:Int):=(by omega);have HF:Hid (∀w',Below w.heap.size w w'→ERes 2 0 zEn w (.returned (.agg #[.int .i64 2,.int .i64 0,.int .i64 0,.int .i64 0,.slice none 0 0,.slice none 0 0])) w'):=fun w' h=>eres_bad h;go_enter Tryz.func85,Tryz.ntmps85;go_wp2_with fail;refine (l6Bad_any 2 _).mono ?_;rintro e w1 ⟨rfl,hb1⟩;have HB1:Hid (Below w.heap.size w w1):=below_then (below_new _ _) hb1;obtain ⟨hcc,hff⟩:=bcell2 hb1;have r0:w1.cell? ⟨w.heap.size,0,none⟩=some (.int .i64 0):=(by rw [hcc _ _ (by simp)];simp [go_sem]);have r1:w1.cell? ⟨w.heap.size,1,none⟩=some (.int .i64 0):=(by rw [hcc _ _ (by simp)];simp [go_sem]);have r2:w1.cell? ⟨w.heap.size,2,none⟩=some (.int .i64 0):=(by rw [hcc _ _ (by simp)];simp [go_sem]);have r3:w1.cell? ⟨w.heap.size,3,none⟩=some (.int .i64 0):=(by rw [hcc _ _ (by simp)];simp [go_sem]);have r4:w1.cell? ⟨w.heap.size,4,none⟩=some (.slice none 0 0):=(by rw [hcc _ _ (by simp)];simp [go_sem]);have r5:w1.cell? ⟨w.heap.size,5,none⟩=some (.slice none 0 0):=(by rw [hcc _ _ (by simp)];simp [go_sem])
  have rf:∀i,w1.frozen? ⟨w.heap.size,i,none⟩=false:=fun i=>by rw [hff _ _ (by simp)];simp [go_sem]
  clear hcc hff hb1;go_wp2_with fail;refine bodyPost_ret (v:=.agg #[.int .i64 2,.int .i64 0,.int .i64 0,.int .i64 0,.slice none 0 0,.slice none 0 0]) (by simp [results,Tryz.results85,go_sem, *]) rfl ?_;refine HF.out _ ?_
  repeat (first | with_reducible exact HB1.out | with_reducible refine Below.setCell ?_ (by first | omega | (simp <;> omega)) _)
theorem specNe_any (n:Nat) (K V:Nat→Int) (a:Option Addr) (cap:Nat) (w:World) (h:CellsAt w a n K V) :
    Calls Tryz.prog 85 #[.slice a n cap] w (ERes (neC n K V) 0 (neR n K V) w):=by
  unfold neR
  by_cases h1:20<n
  · have e:neC n K V=2:=by rw [neC,if_pos h1]
    rw [e,if_neg (by decide)];exact specNe_many n a cap w h1
  · have e:neC n K V=cff K V n 0:=by rw [neC,if_neg h1]
    rw [e];exact specNe_some n K V a cap w (by omega) _ rfl h _ (fun h=>if_pos h) (fun h=>if_neg h)
end Go.Proofs.YtjdodbiphijjgaaGreat
