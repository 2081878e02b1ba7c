import Derived.Test.YtjdodbiphijjgaaGreatJFb
import Derived.Test.YtjdodbiphijjgaaGreatJVj
import Derived.Test.YtjdodbiphijjgaaGreatJVn
import Derived.Deep.DeepCutAuto
import Derived.Test.YtjdodbiphijjgaaGreatJRqr
namespace Go.Proofs.YtjdodbiphijjgaaGreat
open Go.RowKit Go.Deep
set_option linter.unusedVariables false
set_option maxRecDepth 20000
def mayB (n:Nat) (R:Nat→Vr) (x o:Int):Bool:=decide (n=0) || (if (R 0).a=0 then (R 0).t == o else decide ((R 0).a≤x))
theorem l5May_any (n:Nat) (R:Nat→Vr) (a:Option Addr) (cap:Nat) (x o:Int) (w:World) (h:VersAt w a n R) :
    Calls Tryz.prog 112 #[.slice a n cap,.agg #[.int .i64 x,.int .i64 o]] w fun e w'=>e=.returned (.bool (mayB n R x o))∧Below w.heap.size w w':=by
  rcases Nat.eq_zero_or_pos n with rfl | hp
  · go_enter Tryz.func112,Tryz.ntmps112;go_wp2_with fail;go_ret;exact ⟨rfl,below_new _ _⟩
  · obtain ⟨b,off,rfl,hl,x0,x1,x2,x3⟩:=h.first hp
    have hp':(0:Int)<(n:Int):=(by omega);have hp0:(n == 0)=false:=(by simp;omega);have hp1:((n:Int) == 0)=false:=(by simp;omega);have hp2:¬n=0:=(by omega);have y0:∀ob:Obj,(w.alloc ob).cell? ⟨b,off,none⟩=some (.int .i64 (R 0).t):=fun ob=>cell_alloc x0 ob;have y1:∀ob:Obj,(w.alloc ob).cell? ⟨b,off+1,none⟩=some (.int .i64 (R 0).a):=fun ob=>cell_alloc x1 ob;clear x0 x1 x2 x3 h
    by_cases hz:(R 0).a=0
    · have HV:Hid (mayB n R x o=((R 0).t == o)):=by
        show mayB n R x o=((R 0).t == o);simp [mayB,hz,hp2]
      rw [hz] at y1;generalize hr:(R 0).t=t at *;clear hr hz
      by_cases ht:t=o
      · have HV2:Hid (mayB n R x o=true):=HV.out.trans (by simp [ht]);subst ht;clear HV;go_enter Tryz.func112,Tryz.ntmps112;go_wp2_with fail;go_quiet (fail);go_wp2_with fail;go_ret;exact ⟨ret_bool HV2.out.symm,by repeat (first | exact below_new _ _ | apply Below.drew | refine below_drewN ?_ _)⟩
      · have HV2:Hid (mayB n R x o=false):=HV.out.trans (by simp [ht]);have ht2:(t == o)=false:=(by simp [ht]);clear HV;go_enter Tryz.func112,Tryz.ntmps112;go_wp2_with fail;go_quiet (fail);go_wp2_with fail;go_ret;exact ⟨ret_bool HV2.out.symm,by repeat (first | exact below_new _ _ | apply Below.drew | refine below_drewN ?_ _)⟩
    · have HV:Hid (mayB n R x o=decide ((R 0).a≤x)):=by
        show mayB n R x o=decide ((R 0).a≤x);simp [mayB,hz,hp2]
      generalize hr:R 0=r at *;clear hr;obtain ⟨t,ra,g,v⟩:=r;simp only at *;have hz1:(ra == 0)=false:=(by simp [hz]);go_enter Tryz.func112,Tryz.ntmps112;go_wp2_with fail;go_quiet (fail);go_wp2_with fail;go_ret;exact ⟨ret_bool HV.out.symm,by repeat (first | exact below_new _ _ | apply Below.drew | refine below_drewN ?_ _)⟩
theorem mayB_kd {n:Nat} {R:Nat→Vr} {x o:Int} (hp:0<n):(mayB n R x o=true→kd (R 0) x o≠0)∧(mayB n R x o=false→kd (R 0) x o=0):=by
  have hp2:¬n=0:=(by omega);have e:mayB n R x o=(if (R 0).a=0 then (R 0).t == o else decide ((R 0).a≤x)):=(by simp [mayB,hp2]);rw [e];generalize R 0=r;obtain ⟨t,a,g,v⟩:=r
  have hq:∀q:Prop,q→(if g=true then (1:Int) else 2)≠0:=fun q _=>by cases g <;> decide
  simp only [kd]
  by_cases hz:a=0
  · subst hz;rw [if_pos rfl]
    by_cases ht:t=o
    · subst ht;rw [if_pos (.inr ⟨rfl,rfl⟩)];exact ⟨fun _=>hq True trivial,fun h=>by simp at h⟩
    · rw [if_neg (by intro h;rcases h with ⟨h,_⟩ | ⟨h,_⟩;exact h rfl;exact ht h)];exact ⟨fun h=>by simp [ht] at h,fun _=>rfl⟩
  · rw [if_neg hz]
    by_cases ha:a≤x
    · rw [if_pos (.inl ⟨hz,ha⟩)];exact ⟨fun _=>hq True trivial,fun h=>by simp [ha] at h⟩
    · rw [if_neg (by intro h;rcases h with ⟨_,h⟩ | ⟨_,h⟩;exact ha h;exact hz h)];exact ⟨fun h=>by simp [ha] at h,fun _=>rfl⟩
def mwC (n:Nat) (R:Nat→Vr) (x o:Int):Int:=if avC n R x o=0 then (if o=0 then 3 else (if mayB n R x o=true then 0 else 9)) else avC n R x o
set_option maxHeartbeats 2000000 in
theorem implMw_any (n:Nat) (R:Nat→Vr) (a:Option Addr) (cap:Nat) (x o:Int) (w:World) (hn:n≤9223372036854775807) (h:VersAt w a n R) :
    Calls Tryz.prog 179 #[.slice a n cap,.agg #[.int .i64 x,.int .i64 o]] w fun e w'=>e=.returned (.int .i64 (mwC n R x o))∧Below w.heap.size w w':=by
  have HA:Hid (VersAt w a n R):=h;have HV:Hid (mwC n R x o=if avC n R x o=0 then (if o=0 then 3 else (if mayB n R x o=true then 0 else 9)) else avC n R x o):=rfl;clear h;generalize mwC n R x o=C at *;go_enter Tryz.func179,Tryz.ntmps179;go_wp2_with fail;refine (chainViewFault_any n R a cap x o _ hn (HA.out.below (below_new _ _))).mono ?_;rintro e w1 ⟨rfl,hb1⟩;obtain ⟨q0,q1⟩:=(Box2.new w (.int .i64 x) (.int .i64 o) 122).below hb1;have HB1:Hid (Below w.heap.size w w1):=below_then (below_new _ _) hb1;have hs1:w.heap.size<w1.heap.size:=(by have:=hb1.size;simp at this;omega);clear hb1
  by_cases hc:avC n R x o=0
  · rw [hc]
    by_cases ho:o=0
    · have hC:C=3:=by rw [HV.out,if_pos hc,if_pos ho]
      subst hC;rw [ho] at q1;clear HV hc HA ho;go_wp2_with fail;go_ret;exact ⟨rfl,HB1.out⟩
    · have ho1:(o == 0)=false:=by simp [ho]
      rcases Nat.eq_zero_or_pos n with hn0 | hp
      · subst hn0;have hC:C=0:=(by rw [HV.out,if_pos hc,if_neg ho,if_pos (by simp [mayB])]);subst hC;clear HV hc;go_wp2_with fail;refine wp_region_any (by kernel_rfl) ?_;change wpAny _ _ _ _ _ _ _ (World.drew _);refine wpAny_take (i:=0) (v:=.slice a 0 cap) rfl (by kernel_rfl) (by kernel_rfl) (by kernel_rfl) (fun _ _ _ h=>h) (Or.inl ⟨by kernel_rfl,by intro w;go_simp⟩) ?_;refine wpAny_take (i:=1) (v:=.int .i64 0) rfl (by kernel_rfl) (by kernel_rfl) (by kernel_rfl) (fun _ _ _ h=>h) (Or.inl ⟨by kernel_rfl,by intro w;go_simp⟩) ?_;refine wpAny_take (i:=2) (v:=.bool false) rfl (by kernel_rfl) (by kernel_rfl) (by kernel_rfl) (fun _ _ _ h=>h) (Or.inl ⟨by kernel_rfl,by intro w;go_simp⟩) ?_;refine wpAny_take (i:=3) (v:=.bool false) rfl (by kernel_rfl) (by kernel_rfl) (by kernel_rfl) (fun _ _ _ h=>h) (Or.inl ⟨by kernel_rfl,by intro w;go_simp⟩) ?_;refine any_skip 4 (some 19) (by kernel_rfl) (by kernel_rfl) (by kernel_rfl) (by kernel_rfl) (by kernel_rfl) (fun _ _ _ h=>h) ?_;refine any_skip 5 (some 20) (by kernel_rfl) (by kernel_rfl) (by kernel_rfl) (by kernel_rfl) (by kernel_rfl) (fun _ _ _ h=>h) ?_;refine any_skip 6 (some 21) (by kernel_rfl) (by kernel_rfl) (by kernel_rfl) (by kernel_rfl) (by kernel_rfl) (fun _ _ _ h=>h) ?_;refine any_skip 7 (some 22) (by kernel_rfl) (by kernel_rfl) (by kernel_rfl) (by kernel_rfl) (by kernel_rfl) (fun _ _ _ h=>h) ?_;refine any_skip 8 (some 23) (by kernel_rfl) (by kernel_rfl) (by kernel_rfl) (by kernel_rfl) (by kernel_rfl) (fun _ _ _ h=>h) ?_;refine any_skip 9 (some 24) (by kernel_rfl) (by kernel_rfl) (by kernel_rfl) (by kernel_rfl) (by kernel_rfl) (fun _ _ _ h=>h) ?_;refine wpAny_take (i:=10) (v:=.bool false) rfl (by kernel_rfl) (by kernel_rfl) (by kernel_rfl) (fun _ _ _ h=>h) (Or.inl ⟨by kernel_rfl,by intro w;go_simp⟩) ?_;refine wpAny_done (by kernel_rfl) ?_ _;go_simp;go_wp2_with fail;go_ret;exact ⟨rfl,HB1.out.drew⟩
      · by_cases hm:mayB n R x o=true
        · have hC:C=0:=by rw [HV.out,if_pos hc,if_neg ho,if_pos hm]
          have hk:=(mayB_kd hp).1 hm;subst hC;clear HV hc hm
          obtain ⟨b,off,rfl,hl,x0,x1,x2,x3⟩:=(HA.out.below HB1.out).first hp
          have hp':(0:Int)<(n:Int):=(by omega);clear HA;generalize R 0=r at *;have HB2:Hid (∀wz,Below w1.heap.size w1 wz→Below w.heap.size w wz):=fun wz hz=>below_then HB1.out hz;generalize hk2:kd r x o=kk at *;have hk3:(kk == 0)=false:=(by simp [hk]);go_wp2_with fail;have hb0:Below w1.heap.size w1 w1.drew:=(Below.refl _ _).drew
          go_region_held3 (fun w'=>Below w1.heap.size w1 w'∧w'.cell? ⟨b,off,none⟩=some (.int .i64 r.t)∧w'.cell? ⟨b,off+1,none⟩=some (.int .i64 r.a)∧w'.cell? ⟨b,off+2,none⟩=some (.bool r.g)∧w'.cell? ⟨b,off+3,none⟩=some (.int .i64 r.v)∧w'.cell? ⟨w.heap.size,0,none⟩=some (.int .i64 x)∧w'.cell? ⟨w.heap.size,1,none⟩=some (.int .i64 o)) (go_keep)
            (first | (go_at_call 170;refine (kindIn_any r x o _).mono ?_;rintro e wq ⟨rfl,hbq⟩;rw [hk2];have hU:=below_then (w:=w1) (by simp [*]) hbq;have hU0:=cell_below (B:=b) (o:=off) (v:=.int .i64 r.t) (by simp [*]) hbq;have hU1:=cell_below (B:=b) (o:=off+1) (v:=.int .i64 r.a) (by simp [*]) hbq;have hU2:=cell_below (B:=b) (o:=off+2) (v:=.bool r.g) (by simp [*]) hbq;have hU3:=cell_below (B:=b) (o:=off+3) (v:=.int .i64 r.v) (by simp [*]) hbq;have hU4:=cell_below (B:=w.heap.size) (o:=0) (v:=.int .i64 x) (by simp [*]) hbq;have hU5:=cell_below (B:=w.heap.size) (o:=1) (v:=.int .i64 o) (by simp [*]) hbq))
          go_wp2_with fail;go_ret;exact ⟨rfl,HB2.out _ (by assumption)⟩
        · have hm':mayB n R x o=false:=by simpa using hm
          have hC:C=9:=(by rw [HV.out,if_pos hc,if_neg ho,if_neg hm]);have hk:=(mayB_kd hp).2 hm';subst hC;clear HV hc hm hm'
          obtain ⟨b,off,rfl,hl,x0,x1,x2,x3⟩:=(HA.out.below HB1.out).first hp
          have hp':(0:Int)<(n:Int):=(by omega);clear HA;generalize R 0=r at *;have HB2:Hid (∀wz,Below w1.heap.size w1 wz→Below w.heap.size w wz):=fun wz hz=>below_then HB1.out hz;go_wp2_with fail;have hb0:Below w1.heap.size w1 w1.drew:=(Below.refl _ _).drew
          go_region_held3 (fun w'=>Below w1.heap.size w1 w'∧w'.cell? ⟨b,off,none⟩=some (.int .i64 r.t)∧w'.cell? ⟨b,off+1,none⟩=some (.int .i64 r.a)∧w'.cell? ⟨b,off+2,none⟩=some (.bool r.g)∧w'.cell? ⟨b,off+3,none⟩=some (.int .i64 r.v)∧w'.cell? ⟨w.heap.size,0,none⟩=some (.int .i64 x)∧w'.cell? ⟨w.heap.size,1,none⟩=some (.int .i64 o)) (go_keep)
            (first | (go_at_call 170;refine (kindIn_any r x o _).mono ?_;rintro e wq ⟨rfl,hbq⟩;rw [hk];have hU:=below_then (w:=w1) (by simp [*]) hbq;have hU0:=cell_below (B:=b) (o:=off) (v:=.int .i64 r.t) (by simp [*]) hbq;have hU1:=cell_below (B:=b) (o:=off+1) (v:=.int .i64 r.a) (by simp [*]) hbq;have hU2:=cell_below (B:=b) (o:=off+2) (v:=.bool r.g) (by simp [*]) hbq;have hU3:=cell_below (B:=b) (o:=off+3) (v:=.int .i64 r.v) (by simp [*]) hbq;have hU4:=cell_below (B:=w.heap.size) (o:=0) (v:=.int .i64 x) (by simp [*]) hbq;have hU5:=cell_below (B:=w.heap.size) (o:=1) (v:=.int .i64 o) (by simp [*]) hbq))
          go_wp2_with fail;go_ret;exact ⟨rfl,HB2.out _ (by assumption)⟩
  · have hC:C=avC n R x o:=by rw [HV.out,if_neg hc]
    rw [←hC];rw [←hC] at hc;clear HV hC;have hc1:(C != 0)=true:=(by simp [hc]);go_wp2_with fail;go_ret;exact ⟨rfl,HB1.out⟩
def pxA (R:Nat→Vr) (x:Vr) (i:Nat):Vr:=if i=0 then x else R i
def pxC (R:Nat→Vr) (x:Vr) (i:Nat):Vr:=if i=0 then x else R (i-1)
theorem l5Push_many (n:Nat) (R:Nat→Vr) (a:Option Addr) (cap:Nat) (o:Int) (g:Bool) (v:Int) (w:World) (hn:n=12) (hw:wrt n R≠o) (h:VersAt w a n R) :
    Calls Tryz.prog 114 #[.slice a n cap,.int .i64 o,.bool g,.int .i64 v] w fun e w'=>e=.returned (.tuple #[.slice a n cap,.int .i64 2])∧Below w.heap.size w w':=by
  have HA:Hid (VersAt w a n R):=h;have hn1:(12:Int)≤(n:Int):=(by omega);clear h hn;go_enter Tryz.func114,Tryz.ntmps114;go_wp2_with fail;refine (l5Writer_any n R a cap _ (HA.out.below (below_new _ _))).mono ?_;rintro e w1 ⟨rfl,hw1⟩;have HB1:Hid (Below w.heap.size w w1):=(by rw [hw1];exact below_new _ _);clear hw1;generalize wrt n R=z at *;have hz:(z == o)=false:=(by simp [hw]);go_wp2_with fail;go_ret2;exact ⟨rfl,HB1.out⟩
def pvC (n:Nat) (R:Nat→Vr) (x o:Int) (g:Bool) (v:Int):Int:=
  if avC n R x o=0 then (if inB v 0 9999=true then (if (g && v != 0)=true then 1 else (if mwC n R x o=0 then (if fop n R=true then 0 else (if n=12 then 2 else 0)) else mwC n R x o)) else 3) else avC n R x o
def pvN (n:Nat) (R:Nat→Vr) (x o:Int) (g:Bool) (v:Int):Nat:=if pvC n R x o g v=0 then (if fop n R=true then n else n+1) else 0
def pvS (n:Nat) (R:Nat→Vr) (o:Int) (g:Bool) (v:Int):Nat→Vr:=if fop n R=true then pxA R ⟨o,0,g,v⟩ else pxC R ⟨o,0,g,v⟩
theorem mw_good {n:Nat} {R:Nat→Vr} {x o:Int} (ha:avC n R x o=0) (h:mwC n R x o=0):o≠0∧n≤12∧(fop n R=true→0<n∧wrt n R=o)∧(fop n R=false→wrt n R≠o):=by
  have ho:o≠0:=by
    intro e;unfold mwC at h;rw [if_pos ha,if_pos e] at h;omega
  have hm:mayB n R x o=true:=by
    unfold mwC at h;rw [if_pos ha,if_neg ho] at h
    by_cases h9:mayB n R x o=true
    · exact h9
    · rw [if_neg h9] at h;omega
  refine ⟨ho,avC_good ha,fun hf=>?_,fun hf=>?_⟩
  · have ⟨h1,h2⟩:0<n∧(R 0).a=0:=by simpa [fop] using hf
    refine ⟨h1,?_⟩;have h3:¬n=0:=(by omega);have:(R 0).t=o:=(by simpa [mayB,h2,h3] using hm);exact (if_pos ⟨h1,h2⟩).trans this
  · rw [wrt_shut hf];exact fun e=>ho e.symm
theorem cres_end1 {w w3:World} {lo m:Nat} {a:Option Addr} {S:Nat→Vr} (hb:Below w.heap.size w w3) (hl:w.heap.size+1<lo) (ho:Own4 w3 lo w3.heap.size a m S) (u0 u1:Value) :
    Below w.heap.size w ((w3.setCell ⟨w.heap.size+1,0,none⟩ u0).setCell ⟨w.heap.size+1,1,none⟩ u1)∧
      Own4 ((w3.setCell ⟨w.heap.size+1,0,none⟩ u0).setCell ⟨w.heap.size+1,1,none⟩ u1) w.heap.size ((w3.setCell ⟨w.heap.size+1,0,none⟩ u0).setCell ⟨w.heap.size+1,1,none⟩ u1).heap.size a m S:=by
  refine ⟨(hb.setCell (p:=⟨w.heap.size+1,0,none⟩) (Nat.le_succ _) _).setCell (p:=⟨w.heap.size+1,1,none⟩) (Nat.le_succ _) _,?_⟩
  have hw:Writes (w.heap.size+1) (w.heap.size+2) w3 ((w3.setCell ⟨w.heap.size+1,0,none⟩ u0).setCell ⟨w.heap.size+1,1,none⟩ u1):=
    ((Writes.refl _ _ _).setCell (p:=⟨w.heap.size+1,0,none⟩) (Nat.le_refl _) (Nat.lt_succ_self _) _).setCell (p:=⟨w.heap.size+1,1,none⟩) (Nat.le_refl _) (Nat.lt_succ_self _) _
  exact (ho.writes hw (.inr (by omega))).wide (by omega) hw.size (Nat.le_refl _)
theorem co_join (R:Nat→Vr) (y:Int) (n:Nat) (hp:0<n):(vL (fun _=>(⟨(R 0).t,y,(R 0).g,(R 0).v⟩:Vr)) 1 ++ vL (fun i=>R (i+1)) (n-1)).length=n∧∀i,i<n→(vL (fun _=>(⟨(R 0).t,y,(R 0).g,(R 0).v⟩:Vr)) 1 ++ vL (fun i=>R (i+1)) (n-1)).getD i zV=coS R y i:=by
  refine ⟨by rw [List.length_append,vL_len,vL_len];omega,fun i hi=>?_⟩;rw [List.getD_eq_getElem?_getD]
  by_cases e:i=0
  · subst e;rw [List.getElem?_append_left (by rw [vL_len];omega),vL_get (by omega)];rfl
  · rw [List.getElem?_append_right (by rw [vL_len];omega),vL_len,vL_get (by omega)];show R (i-1+1)=coS R y i;rw [show i-1+1=i by omega];exact (if_neg e).symm
theorem co_joinedC (R:Nat→Vr) (y:Int) (n:Nat) (hp:0<n) (hn:n≤12) (W:World) (ra:Option Addr) (rc:Nat) (hv:VersAt W ra (n-1) (fun i=>R (i+1))) :
    Calls Tryz.prog 157 #[.slice (some ⟨W.heap.size+1,0,none⟩) 2 2] ((W.alloc (.cells #[.int .i64 (R 0).t,.int .i64 y,.bool (R 0).g,.int .i64 (R 0).v] 179)).alloc (.cells #[.slice (some ⟨W.heap.size,0,none⟩) 1 1,.slice ra (n-1) rc] 155))
      (fun e w'=>∃ra' rc',e=.returned (.slice ra' n rc')∧ShA ra' n rc'∧Below W.heap.size W w'∧Own4 w' (W.heap.size+2) w'.heap.size ra' n (coS R y)):=by
  have hbn:∀o1 o2,Below W.heap.size W ((W.alloc o1).alloc o2):=fun o1 o2=>(below_new W o1).alloc (by simp) _
  have hj:=joinedC_any 2 (fun i=>if i=0 then some ⟨W.heap.size,0,none⟩ else ra) (fun i=>if i=0 then 1 else n-1) (fun i=>if i=0 then 1 else rc) (fun i j=>if i=0 then ⟨(R 0).t,y,(R 0).g,(R 0).v⟩ else R (j+1)) (W.heap.size+1) 0 2
    ((W.alloc (.cells #[.int .i64 (R 0).t,.int .i64 y,.bool (R 0).g,.int .i64 (R 0).v] 179)).alloc (.cells #[.slice (some ⟨W.heap.size,0,none⟩) 1 1,.slice ra (n-1) rc] 155))
    (fun i hi=>by show (if i=0 then 1 else n-1)≤100;split <;> omega) (by simp) (fun i hi=>by
      have h2:i=0∨i=1:=(by omega)
      rcases h2 with rfl | rfl
      · exact ⟨by simp [go_sem],.inr ⟨W.heap.size,0,rfl,by simp;omega,fun i hi=>by
          obtain rfl:i=0:=(by simp at hi;omega)
          simp [C4,go_sem]⟩⟩
      · exact ⟨by simp [go_sem],hv.below (hbn _ _)⟩) (by omega)
  have e:jv (fun i=>if i=0 then 1 else n-1) (fun i j=>if i=0 then ⟨(R 0).t,y,(R 0).g,(R 0).v⟩ else R (j+1)) 2=vL (fun _=>(⟨(R 0).t,y,(R 0).g,(R 0).v⟩:Vr)) 1 ++ vL (fun i=>R (i+1)) (n-1):=(by simp [jv]);rw [e,(co_join R y n hp).1] at hj;refine hj.mono ?_;rintro e w' ⟨ra',rc',rfl,hsh,hb,ho⟩;have es:((W.alloc (.cells #[.int .i64 (R 0).t,.int .i64 y,.bool (R 0).g,.int .i64 (R 0).v] 179)).alloc (.cells #[.slice (some ⟨W.heap.size,0,none⟩) 1 1,.slice ra (n-1) rc] 155)).heap.size=W.heap.size+2:=(by simp);rw [es] at ho;exact ⟨ra',rc',rfl,hsh,below_then (hbn _ _) hb,ho.congr (co_join R y n hp).2⟩
theorem push_joinedC (o:Int) (g:Bool) (v:Int) (Q:Nat→Vr) (k:Nat) (hk:k≤11) (W:World) (ra:Option Addr) (rc:Nat) (hv:VersAt W ra k Q) :
    Calls Tryz.prog 157 #[.slice (some ⟨W.heap.size+1,0,none⟩) 2 2] ((W.alloc (.cells #[.int .i64 o,.int .i64 0,.bool g,.int .i64 v] 179)).alloc (.cells #[.slice (some ⟨W.heap.size,0,none⟩) 1 1,.slice ra k rc] 155))
      (fun e w'=>∃ra' rc',e=.returned (.slice ra' (k+1) rc')∧ShA ra' (k+1) rc'∧Below W.heap.size W w'∧Own4 w' (W.heap.size+2) w'.heap.size ra' (k+1) (pxC Q ⟨o,0,g,v⟩)):=by
  have hj:=co_joinedC (pxC Q ⟨o,0,g,v⟩) 0 (k+1) (by omega) (by omega) W ra rc (hv.congr (fun i _=>by simp [pxC]));refine Calls.mono hj ?_;rintro e w' ⟨ra',rc',rfl,hsh,hb,ho⟩
  exact ⟨ra',rc',rfl,hsh,hb,ho.congr (fun i hi=>by
    by_cases e:i=0
    · subst e;rfl
    · simp [coS,e])⟩
set_option maxHeartbeats 4000000 in
theorem implPvC_any (n:Nat) (R:Nat→Vr) (a:Option Addr) (cc:Nat) (hcc:n≤cc) (x o:Int) (g:Bool) (v:Int) (w:World) (hn:n≤9223372036854775807) (h:VersAt w a n R) :
    Calls Tryz.prog 180 #[.slice a n cc,.agg #[.int .i64 x,.int .i64 o],.bool g,.int .i64 v] w (CResC (pvC n R x o g v) (pvN n R x o g v) (pvS n R o g v) w):=by
  have HA:Hid (VersAt w a n R):=h;have HV:Hid ((pvC n R x o g v=if avC n R x o=0 then (if inB v 0 9999=true then (if (g && v != 0)=true then 1 else (if mwC n R x o=0 then (if fop n R=true then 0 else (if n=12 then 2 else 0)) else mwC n R x o)) else 3) else avC n R x o)∧(pvN n R x o g v=if pvC n R x o g v=0 then (if fop n R=true then n else n+1) else 0)∧pvS n R o g v=if fop n R=true then pxA R ⟨o,0,g,v⟩ else pxC R ⟨o,0,g,v⟩):=⟨rfl,rfl,rfl⟩;clear h;generalize pvC n R x o g v=C at *;generalize pvN n R x o g v=M at *;generalize pvS n R o g v=S at *;have hbn:∀o1 o2,Below w.heap.size w ((w.alloc o1).alloc o2):=fun o1 o2=>(below_new w o1).alloc (by simp) _;go_enter Tryz.func180,Tryz.ntmps180;go_wp2_with fail;refine (chainViewFault_any n R a cc x o _ hn (HA.out.below (hbn _ _))).mono ?_;rintro e w1 ⟨rfl,hb1⟩;have BV:Box2 w1 w.heap.size (.int .i64 x) (.int .i64 o):=((Box2.new w (.int .i64 x) (.int .i64 o) 122).alloc _).below hb1;have BX:BoxR w1 (w.alloc (.cells #[.int .i64 x,.int .i64 o] 122)).heap.size (.int .i64 0) (.slice none 0 0):=(BoxR.new (w.alloc (.cells #[.int .i64 x,.int .i64 o] 122)) (.int .i64 0) (.slice none 0 0) 231).below hb1;rw [World.size_alloc] at BX;have HB1:Hid (Below w.heap.size w w1):=below_then (hbn _ _) hb1;have hs1:w.heap.size+1<w1.heap.size:=(by have:=hb1.size;simp at this;omega);clear hb1 hbn;obtain ⟨t0,t1⟩:=BV;have BV:Box2 w1 w.heap.size (.int .i64 x) (.int .i64 o):=⟨t0,t1⟩
  by_cases hc:avC n R x o=0
  · rw [hc];have HA1:Hid (VersAt w1 a n R):=HA.out.below HB1.out
    by_cases hv:inB v 0 9999=true
    · have hq9:True:=trivial;go_wp2_with fail;refine (isValue_any _ _).mono ?_;rintro e wt ⟨rfl,hwt⟩;have hwt':=hwt.symm;clear hwt;subst hwt';rw [hv];go_wp2_with fail;refine (goneWithValue_any _ _ _ _ _).mono ?_;rintro e w2 ⟨rfl,hb2⟩;have hb2':=below_then (below_new _ _) hb2;have MD:=(box_v w1 ⟨o,0,g,v⟩ 179).below hb2;have BX2:=BX.below hb2';have BV2:=BV.below hb2';have HB2:Hid (Below w.heap.size w w2):=below_then HB1.out hb2';have HA2:Hid (VersAt w2 a n R):=HA1.out.below hb2';have hs2:w.heap.size+1<w2.heap.size:=Nat.lt_of_lt_of_le hs1 hb2'.size;clear hb2 hb2' BX BV t0 t1 HA HA1;generalize w1.heap.size=B at *
      by_cases hg:(g && v != 0)=true
      · rw [hg];have hC:C=1:=(by rw [HV.out.1,if_pos hc,if_pos hv,if_pos hg]);have hM:M=0:=(by rw [HV.out.2.1,if_neg (by omega)]);subst hC hM;clear HV;obtain ⟨q0,q1,qf⟩:=BX2;have HE:Hid (∀u0 u1:Value,_):=cres_end1 (m:=0) (a:=none) (S:=S) HB2.out (Nat.lt_succ_self _) own4_none;go_wp2_with fail;refine bodyPost_ret (v:=.agg #[.int .i64 1,.slice none 0 0]) (by simp [results,Tryz.results180,go_sem, *]) rfl ⟨none,0,rfl,⟨Nat.le_refl _,.inl ⟨rfl,rfl,rfl⟩⟩,(HE.out _ _).1,(HE.out _ _).2⟩
      · have hg':(g && v != 0)=false:=by simpa using hg
        rw [hg'];have HM:Hid ((C=(if mwC n R x o=0 then (if fop n R=true then 0 else (if n=12 then 2 else 0)) else mwC n R x o))∧(M=if C=0 then (if fop n R=true then n else n+1) else 0)∧S=if fop n R=true then pxA R ⟨o,0,g,v⟩ else pxC R ⟨o,0,g,v⟩):=⟨by rw [HV.out.1,if_pos hc,if_pos hv,if_neg hg],HV.out.2.1,HV.out.2.2⟩;clear HV hg hg';obtain ⟨p0,p1⟩:=BV2;go_wp2_with fail;refine (implMw_any n R a cc x o _ hn HA2.out).mono ?_;rintro e w3 ⟨rfl,hb3⟩;have BX3:=BX2.below hb3;have MD3:=MD.below hb3;have HB3:Hid (Below w.heap.size w w3):=below_then HB2.out hb3;have HA3:Hid (VersAt w3 a n R):=HA2.out.below hb3;have hs3:w.heap.size+1<w3.heap.size:=Nat.lt_of_lt_of_le hs2 hb3.size;clear hb3 BX2 MD p0 p1 HA2
        by_cases hm:mwC n R x o=0
        · obtain ⟨ho,hn12,hA,hB⟩:=mw_good hc hm;rw [hm];go_wp2_with fail;refine (firstIsOpen_any n R a cc w3 HA3.out).mono ?_;rintro e w4 ⟨rfl,hb4⟩;have BX4:=BX3.below hb4;obtain ⟨d0,d1,d2,d3⟩:=MD3.below hb4;simp only [Nat.zero_add] at d0 d1 d2 d3;have HB4:Hid (Below w.heap.size w w4):=below_then HB3.out hb4;have HA4:Hid (VersAt w4 a n R):=HA3.out.below hb4;have hs4:w.heap.size+1<w4.heap.size:=Nat.lt_of_lt_of_le hs3 hb4.size;clear hb4 BX3 MD3 HA3 hs1 hs2 hs3;obtain ⟨hCm,hMm,hSm⟩:=HM.out;clear HM;rw [if_pos hm] at hCm;cases hf:fop n R
          · rw [hf,if_neg (by simp)] at hCm;rw [hf,if_neg (by simp)] at hSm
            by_cases h12:n=12
            · rw [if_pos h12] at hCm;rw [if_neg (by omega)] at hMm;have h12':((n:Int) == 12)=true:=(by simp [h12]);subst hCm hMm;clear hA hB hSm hc hm hf hn12;obtain ⟨q0,q1,qf⟩:=BX4;have HE:Hid (∀u0 u1:Value,_):=cres_end1 (m:=0) (a:=none) (S:=S) HB4.out (Nat.lt_succ_self _) own4_none;go_wp2_with fail;refine bodyPost_ret (v:=.agg #[.int .i64 2,.slice none 0 0]) (by simp [results,Tryz.results180,go_sem, *]) rfl ⟨none,0,rfl,⟨Nat.le_refl _,.inl ⟨rfl,rfl,rfl⟩⟩,(HE.out _ _).1,(HE.out _ _).2⟩
            · rw [if_neg h12] at hCm;rw [if_pos hCm,hf,if_neg (by simp)] at hMm;subst hCm hMm hSm;have h12':((n:Int) == 12)=false:=(by simp;omega);have h12'':(n == 12)=false:=(by simp;omega);clear hA hB hc hm hf;go_wp2_with fail;refine (push_joinedC o g v R n (by omega) w4 a _ HA4.out).mono ?_;rintro e w6 ⟨ra,rc,rfl,hsh,hb3,ho3⟩;obtain ⟨q0,q1,qf⟩:=BX4.below hb3;have HE:Hid (∀u0 u1:Value,_):=cres_end1 (below_then HB4.out hb3) (by omega) ho3;have HSH:Hid (ShA ra _ rc):=hsh;clear hsh hb3 ho3;go_wp2_with fail;refine bodyPost_ret (v:=.agg #[.int .i64 0,.slice ra (n+1) rc]) (by simp [results,Tryz.results180,go_sem, *]) rfl ⟨ra,rc,rfl,HSH.out,(HE.out _ _).1,(HE.out _ _).2⟩
          · obtain ⟨hp,hw⟩:=hA hf;rw [hf,if_pos rfl] at hCm;rw [hf,if_pos rfl] at hSm;rw [if_pos hCm,hf,if_pos rfl] at hMm;have hMm2:=hMm.symm;clear hMm;subst hCm hMm2 hSm
            obtain ⟨b,off,rfl,hl,-⟩:=HA4.out.first hp
            clear hA hB hc hm hf hw;have hp':(1:Int)≤(n:Int):=(by omega);have hcp:(1:Int)≤(cc:Int):=(by omega)
            by_cases h1:cc=1
            · obtain rfl:n=1:=by omega
              subst h1;have HVR:Hid (VersAt w4 (some ⟨b,off,none⟩) 0 (fun i=>R (i+1))):=.inl rfl;go_wp2_with fail;refine (push_joinedC o g v (fun i=>R (i+1)) 0 (by omega) w4 (some ⟨b,off,none⟩) _ HVR.out).mono ?_;rintro e w6 ⟨ra,rc,rfl,hsh,hb3,ho3⟩;replace ho3:=ho3.congr (S:=pxA R ⟨o,0,g,v⟩) (fun i hi=>by simp only [pxC,pxA];split;rfl;omega);obtain ⟨q0,q1,qf⟩:=BX4.below hb3;have HE:Hid (∀u0 u1:Value,_):=cres_end1 (below_then HB4.out hb3) (by omega) ho3;have HSH:Hid (ShA ra _ rc):=hsh;clear hsh hb3 ho3;go_wp2_with fail;refine bodyPost_ret (v:=.agg #[.int .i64 0,.slice ra 1 rc]) (by simp [results,Tryz.results180,go_sem, *]) rfl ⟨ra,rc,rfl,HSH.out,(HE.out _ _).1,(HE.out _ _).2⟩
            · have HVR:Hid (VersAt w4 (some ⟨b,off+4,none⟩) (n-1) (fun i=>R (i+1))):=HA4.out.rest;have h3:¬((cc:Int)=1):=(by omega);have h4:¬((1:Int)=(cc:Int)):=(by omega);have h5:(1:Int)<(cc:Int):=(by omega);have h6:(((n-1:Nat):Int) == 12)=false:=(by simp;omega);have h7:¬((n-1:Nat):Int)=12:=(by omega);have h8:¬n-1=12:=(by omega);go_wp2_with fail;refine (push_joinedC o g v (fun i=>R (i+1)) (n-1) (by omega) w4 (some ⟨b,off+4,none⟩) _ HVR.out).mono ?_;rintro e w6 ⟨ra,rc,rfl,hsh,hb3,ho3⟩;have en:n-1+1=n:=(by omega);rw [en] at ho3 hsh ⊢;replace ho3:=ho3.congr (S:=pxA R ⟨o,0,g,v⟩) (fun i hi=>by simp only [pxC,pxA];split;rfl;rename_i h9;show R (i-1+1)=R i;congr 1;omega);obtain ⟨q0,q1,qf⟩:=BX4.below hb3;have HE:Hid (∀u0 u1:Value,_):=cres_end1 (below_then HB4.out hb3) (by omega) ho3;have HSH:Hid (ShA ra _ rc):=hsh;clear hsh hb3 ho3;go_wp2_with fail;refine bodyPost_ret (v:=.agg #[.int .i64 0,.slice ra n rc]) (by simp [results,Tryz.results180,go_sem, *]) rfl ⟨ra,rc,rfl,HSH.out,(HE.out _ _).1,(HE.out _ _).2⟩
        · obtain ⟨hCm,hMm,hSm⟩:=HM.out;clear HM;rw [if_neg hm] at hCm;rw [if_neg (by omega)] at hMm;subst hMm;rw [←hCm];rw [←hCm] at hm;clear hCm hSm;have hc1:(C != 0)=true:=(by simp [hm]);obtain ⟨q0,q1,qf⟩:=BX3;have HE:Hid (∀u0 u1:Value,_):=cres_end1 (m:=0) (a:=none) (S:=S) HB3.out (Nat.lt_succ_self _) own4_none;go_wp2_with fail;refine bodyPost_ret (v:=.agg #[.int .i64 C,.slice none 0 0]) (by simp [results,Tryz.results180,go_sem, *]) rfl ⟨none,0,rfl,⟨Nat.le_refl _,.inl ⟨rfl,rfl,rfl⟩⟩,(HE.out _ _).1,(HE.out _ _).2⟩
    · have hv':inB v 0 9999=false:=by simpa using hv
      have hC:C=3:=(by rw [HV.out.1,if_pos hc,if_neg hv]);have hM:M=0:=(by rw [HV.out.2.1,if_neg (by omega)]);subst hC hM;clear HV;go_wp2_with fail;refine (isValue_any _ _).mono ?_;rintro e wt ⟨rfl,hwt⟩;have hwt':=hwt.symm;clear hwt;subst hwt';rw [hv'];obtain ⟨q0,q1,qf⟩:=BX;have HE:Hid (∀u0 u1:Value,_):=cres_end1 (m:=0) (a:=none) (S:=S) HB1.out (Nat.lt_succ_self _) own4_none;go_wp2_with fail;refine bodyPost_ret (v:=.agg #[.int .i64 3,.slice none 0 0]) (by simp [results,Tryz.results180,go_sem, *]) rfl ⟨none,0,rfl,⟨Nat.le_refl _,.inl ⟨rfl,rfl,rfl⟩⟩,(HE.out _ _).1,(HE.out _ _).2⟩
  · have hC:C=avC n R x o:=by rw [HV.out.1,if_neg hc]
    have hM:M=0:=(by rw [HV.out.2.1,if_neg (by omega)]);subst hM;rw [←hC];rw [←hC] at hc;clear HV hC;have hc1:(C != 0)=true:=(by simp [hc]);obtain ⟨q0,q1,qf⟩:=BX;have HE:Hid (∀u0 u1:Value,_):=cres_end1 (m:=0) (a:=none) (S:=S) HB1.out (Nat.lt_succ_self _) own4_none;go_wp2_with fail;refine bodyPost_ret (v:=.agg #[.int .i64 C,.slice none 0 0]) (by simp [results,Tryz.results180,go_sem, *]) rfl ⟨none,0,rfl,⟨Nat.le_refl _,.inl ⟨rfl,rfl,rfl⟩⟩,(HE.out _ _).1,(HE.out _ _).2⟩
end Go.Proofs.YtjdodbiphijjgaaGreat
