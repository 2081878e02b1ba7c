import Derived.Test.YtjdodbiphijjgaaGreatJFb
import Derived.Test.YtjdodbiphijjgaaGreatJFf
namespace Go.Proofs.YtjdodbiphijjgaaGreat
open Go.RowKit Go.Deep
set_option linter.unusedVariables false
set_option maxRecDepth 20000
theorem avC_good {n:Nat} {R:Nat→Vr} {x o:Int} (h:avC n R x o=0):n≤12:=by
  unfold avC at h;split at h
  · rename_i hc;exact (chF_good hc).1
  · contradiction
def told (n:Nat) (R:Nat→Vr) (x o:Int):Bool:=decide (pS n R x o<n) && !(R (pS n R x o)).g
def seC (n:Nat) (R:Nat→Vr) (x o:Int):Int:=if avC n R x o=0 then (if told n R x o=true then 0 else 4) else avC n R x o
def seV (n:Nat) (R:Nat→Vr) (x o:Int):Int:=if avC n R x o=0 then (if told n R x o=true then (R (pS n R x o)).v else 0) else 0
theorem told_iff {n:Nat} {R:Nat→Vr} {x o:Int}:told n R x o=true↔pS n R x o<n∧(R (pS n R x o)).g=false:=by simp [told]
theorem kd_told {n:Nat} {R:Nat→Vr} {x o:Int} (h:pS n R x o<n):kd (R (pS n R x o)) x o=if (R (pS n R x o)).g=true then 1 else 2:=by
  have:=(psn_le R x o n 0).2 (by unfold pS at h;omega);have h2:kd (R (pS n R x o)) x o≠0:=this;generalize R (pS n R x o)=r at *;unfold kd at h2 ⊢
  by_cases hh:(r.a≠0∧r.a≤x)∨(r.t=o∧r.a=0)
  · rw [if_pos hh]
  · exact absurd (if_neg hh) h2
theorem VersAt.nth {w:World} {a:Option Addr} {n k:Nat} {R:Nat→Vr} (h:VersAt w a n R) (hp:k<n):∃b off,a=some ⟨b,off,none⟩∧b<w.heap.size∧C4 w b (off+k*4) (R k):=by
  rcases h with h | ⟨b,off,ha,hl,hc⟩
  · omega
  · exact ⟨b,off,ha,hl,hc k hp⟩
set_option maxHeartbeats 4000000 in
theorem implSe_any (n:Nat) (R:Nat→Vr) (a:Option Addr) (cap:Nat) (x o:Int) (w:World) (hn:n≤9223372036854775807) (h:VersAt w a n R) :
    Calls Tryz.prog 100 #[.slice a n cap,.agg #[.int .i64 x,.int .i64 o]] w fun e w'=>e=.returned (.agg #[.int .i64 (seC n R x o),.int .i64 (seV n R x o)])∧Below w.heap.size w w':=by
  have HA:Hid (VersAt w a n R):=h;have HV:Hid ((seC n R x o=if avC n R x o=0 then (if told n R x o=true then 0 else 4) else avC n R x o)∧(seV n R x o=if avC n R x o=0 then (if told n R x o=true then (R (pS n R x o)).v else 0) else 0)):=⟨rfl,rfl⟩;clear h;generalize seC n R x o=C at *;generalize seV n R x o=V at *;have hbn:∀o1 o2,Below w.heap.size w ((w.alloc o1).alloc o2):=fun o1 o2=>(below_new w o1).alloc (by simp) _;go_enter Tryz.func100,Tryz.ntmps100;go_wp2_with fail;refine (chainViewFault_any n R a cap x o _ hn (HA.out.below (hbn _ _))).mono ?_;rintro e w1 ⟨rfl,hb1⟩;have BV:Box2 w1 w.heap.size (.int .i64 x) (.int .i64 o):=((Box2.new w (.int .i64 x) (.int .i64 o) 122).alloc _).below hb1;have BX:BoxR w1 (w.alloc (.cells #[.int .i64 x,.int .i64 o] 122)).heap.size (.int .i64 0) (.int .i64 0):=(BoxR.new (w.alloc (.cells #[.int .i64 x,.int .i64 o] 122)) (.int .i64 0) (.int .i64 0) 84).below hb1;rw [World.size_alloc] at BX;have HB1:Hid (Below w.heap.size w w1):=below_then (hbn _ _) hb1;have hs1:w.heap.size+1<w1.heap.size:=(by have:=hb1.size;simp at this;omega);clear hb1 hbn;obtain ⟨q0,q1⟩:=BV;have BV:Box2 w1 w.heap.size (.int .i64 x) (.int .i64 o):=⟨q0,q1⟩
  by_cases hc:avC n R x o=0
  · rw [hc];have hn12:=avC_good hc;have HA1:Hid (VersAt w1 a n R):=HA.out.below HB1.out;go_wp2_with fail;refine (placeSeen_any n R a cap x o w1 hn12 HA1.out).mono ?_;rintro e w2 ⟨rfl,hb2⟩;have BX2:=BX.below hb2;have BV2:=BV.below hb2;have HB2:Hid (Below w.heap.size w w2):=below_then HB1.out hb2;have HA2:Hid (VersAt w2 a n R):=HA1.out.below hb2;have hs2:w.heap.size+1<w2.heap.size:=Nat.lt_of_lt_of_le hs1 hb2.size;clear BX BV HA HA1 hb2 q0 q1
    by_cases hp:pS n R x o<n
    · obtain ⟨b,off,rfl,hl,x0,x1,x2,x3⟩:=HA2.out.nth hp;have hk:=kd_told hp;have hT:told n R x o=!(R (pS n R x o)).g:=(by simp [told,hp]);rw [hT] at HV;have hC:=HV.out.1;have hV:=HV.out.2;rw [if_pos hc] at hC hV;clear HV hc hT HA2;generalize pS n R x o=p at *;generalize R p=r at *;have hp1:(p:Int)<(n:Int):=(by omega);have hp3:(0:Int)≤(p:Int):=(by omega);have hp4:((p:Int) == (n:Int))=false:=(by simp;omega);have hp5:(p == n)=false:=(by simp;omega);have hp6:¬p=n:=(by omega);obtain ⟨q0,q1⟩:=BV2;cases hg:r.g
      · have hk3:kd r x o=2:=by rw [hk];simp [hg]
        have hC2:C=0:=(by rw [hC];simp [hg]);have hV2:V=r.v:=(by rw [hV];simp [hg]);clear hC hV hk hg;subst hC2;subst hV2;have HX2:Hid (∀wz,Below w2.heap.size w2 wz→BoxR wz (w.heap.size+1) (.int .i64 0) (.int .i64 0)):=fun wz hz=>BX2.below hz;have HXB:Hid (∀wz,Below w2.heap.size w2 wz→Below w.heap.size w wz):=fun wz hz=>below_then HB2.out hz;clear BX2;go_wp2_with fail;have hb0:Below w2.heap.size w2 w2.drew:=(Below.refl _ _).drew
        go_region_held3 (fun w'=>Below w2.heap.size w2 w'∧w'.cell? ⟨b,off+p*4,none⟩=some (.int .i64 r.t)∧w'.cell? ⟨b,off+p*4+1,none⟩=some (.int .i64 r.a)∧w'.cell? ⟨b,off+p*4+2,none⟩=some (.bool r.g)∧w'.cell? ⟨b,off+p*4+3,none⟩=some (.int .i64 r.v)∧w'.cell? ⟨w.heap.size,0,none⟩=some (.int .i64 x)∧w'.cell? ⟨w.heap.size,1,none⟩=some (.int .i64 o)) (go_keep)
          (first | (go_at_call 170;refine (kindIn_any r x o _).mono ?_;rintro e wq ⟨rfl,hbq⟩;rw [hk3];have hU:=below_then (w:=w2) (by simp [*]) hbq;have hU0:=cell_below (B:=b) (o:=off+p*4) (v:=.int .i64 r.t) (by simp [*]) hbq;have hU1:=cell_below (B:=b) (o:=off+p*4+1) (v:=.int .i64 r.a) (by simp [*]) hbq;have hU2:=cell_below (B:=b) (o:=off+p*4+2) (v:=.bool r.g) (by simp [*]) hbq;have hU3:=cell_below (B:=b) (o:=off+p*4+3) (v:=.int .i64 r.v) (by simp [*]) hbq;have hU4:=cell_below (B:=w.heap.size) (o:=0) (v:=.int .i64 x) (by simp [*]) hbq;have hU5:=cell_below (B:=w.heap.size) (o:=1) (v:=.int .i64 o) (by simp [*]) hbq))
        obtain ⟨r0,r1,rf⟩:=HX2.out wq (by assumption);have HB3:Hid (Below w.heap.size w wq):=HXB.out wq (by assumption);go_wp2_with fail;refine bodyPost_ret (v:=.agg #[.int .i64 0,.int .i64 r.v]) (by simp [results,Tryz.results100,go_sem, *]) rfl ⟨rfl,?_⟩
        repeat (first | exact HB3.out | apply Below.drew | refine Below.setCell ?_ (by first | omega | (simp <;> omega)) _)
      · have hk3:kd r x o=1:=by rw [hk];simp [hg]
        have hC2:C=4:=(by rw [hC];simp [hg]);have hV2:V=0:=(by rw [hV];simp [hg]);clear hC hV hk hg;subst hC2;subst hV2;have HX2:Hid (∀wz,Below w2.heap.size w2 wz→BoxR wz (w.heap.size+1) (.int .i64 0) (.int .i64 0)):=fun wz hz=>BX2.below hz;have HXB:Hid (∀wz,Below w2.heap.size w2 wz→Below w.heap.size w wz):=fun wz hz=>below_then HB2.out hz;clear BX2;go_wp2_with fail;have hb0:Below w2.heap.size w2 w2.drew:=(Below.refl _ _).drew
        go_region_held3 (fun w'=>Below w2.heap.size w2 w'∧w'.cell? ⟨b,off+p*4,none⟩=some (.int .i64 r.t)∧w'.cell? ⟨b,off+p*4+1,none⟩=some (.int .i64 r.a)∧w'.cell? ⟨b,off+p*4+2,none⟩=some (.bool r.g)∧w'.cell? ⟨b,off+p*4+3,none⟩=some (.int .i64 r.v)∧w'.cell? ⟨w.heap.size,0,none⟩=some (.int .i64 x)∧w'.cell? ⟨w.heap.size,1,none⟩=some (.int .i64 o)) (go_keep)
          (first | (go_at_call 170;refine (kindIn_any r x o _).mono ?_;rintro e wq ⟨rfl,hbq⟩;rw [hk3];have hU:=below_then (w:=w2) (by simp [*]) hbq;have hU0:=cell_below (B:=b) (o:=off+p*4) (v:=.int .i64 r.t) (by simp [*]) hbq;have hU1:=cell_below (B:=b) (o:=off+p*4+1) (v:=.int .i64 r.a) (by simp [*]) hbq;have hU2:=cell_below (B:=b) (o:=off+p*4+2) (v:=.bool r.g) (by simp [*]) hbq;have hU3:=cell_below (B:=b) (o:=off+p*4+3) (v:=.int .i64 r.v) (by simp [*]) hbq;have hU4:=cell_below (B:=w.heap.size) (o:=0) (v:=.int .i64 x) (by simp [*]) hbq;have hU5:=cell_below (B:=w.heap.size) (o:=1) (v:=.int .i64 o) (by simp [*]) hbq))
        obtain ⟨r0,r1,rf⟩:=HX2.out wq (by assumption);have HB3:Hid (Below w.heap.size w wq):=HXB.out wq (by assumption);go_wp2_with fail;refine bodyPost_ret (v:=.agg #[.int .i64 4,.int .i64 0]) (by simp [results,Tryz.results100,go_sem, *]) rfl ⟨rfl,?_⟩
        repeat (first | exact HB3.out | apply Below.drew | refine Below.setCell ?_ (by first | omega | (simp <;> omega)) _)
    · have hpn:pS n R x o=n:=by have:=pS_le n R x o;omega
      have hC:C=4:=(by rw [HV.out.1,if_pos hc,if_neg (fun h=>hp (told_iff.1 h).1)]);have hV:V=0:=(by rw [HV.out.2,if_pos hc,if_neg (fun h=>hp (told_iff.1 h).1)]);subst hC hV;rw [hpn];clear HV hc hp hpn;obtain ⟨r0,r1,rf⟩:=BX2;go_wp2_with fail;refine wp_region_any (by kernel_rfl) ?_;change wpAny _ _ _ _ _ _ _ (World.drew _);refine wpAny_take (i:=0) (v:=.int .i64 (n:Int)) rfl (by kernel_rfl) (by kernel_rfl) (by kernel_rfl) (fun _ _ _ h=>h) (Or.inl ⟨by kernel_rfl,by intro w;go_simp⟩) ?_;refine wpAny_take (i:=1) (v:=.slice a n cap) rfl (by kernel_rfl) (by kernel_rfl) (by kernel_rfl) (fun _ _ _ h=>h) (Or.inl ⟨by kernel_rfl,by intro w;go_simp⟩) ?_;refine wpAny_take (i:=2) (v:=.int .i64 (n:Int)) rfl (by kernel_rfl) (by kernel_rfl) (by kernel_rfl) (fun _ _ _ h=>h) (Or.inl ⟨by kernel_rfl,by intro w;go_simp⟩) ?_;refine wpAny_take (i:=3) (v:=.bool true) rfl (by kernel_rfl) (by kernel_rfl) (by kernel_rfl) (fun _ _ _ h=>h) (Or.inl ⟨by kernel_rfl,by intro w;go_simp⟩) ?_;refine wpAny_take (i:=4) (v:=.bool true) rfl (by kernel_rfl) (by kernel_rfl) (by kernel_rfl) (fun _ _ _ h=>h) (Or.inl ⟨by kernel_rfl,by intro w;go_simp⟩) ?_;refine any_skip 5 (some 22) (by kernel_rfl) (by kernel_rfl) (by kernel_rfl) (by kernel_rfl) (by kernel_rfl) (fun _ _ _ h=>h) ?_;refine any_skip 6 (some 23) (by kernel_rfl) (by kernel_rfl) (by kernel_rfl) (by kernel_rfl) (by kernel_rfl) (fun _ _ _ h=>h) ?_;refine any_skip 7 (some 24) (by kernel_rfl) (by kernel_rfl) (by kernel_rfl) (by kernel_rfl) (by kernel_rfl) (fun _ _ _ h=>h) ?_;refine any_skip 8 (some 25) (by kernel_rfl) (by kernel_rfl) (by kernel_rfl) (by kernel_rfl) (by kernel_rfl) (fun _ _ _ h=>h) ?_;refine any_skip 9 (some 26) (by kernel_rfl) (by kernel_rfl) (by kernel_rfl) (by kernel_rfl) (by kernel_rfl) (fun _ _ _ h=>h) ?_;refine any_skip 10 (some 27) (by kernel_rfl) (by kernel_rfl) (by kernel_rfl) (by kernel_rfl) (by kernel_rfl) (fun _ _ _ h=>h) ?_;refine any_skip 11 (some 28) (by kernel_rfl) (by kernel_rfl) (by kernel_rfl) (by kernel_rfl) (by kernel_rfl) (fun _ _ _ h=>h) ?_;refine wpAny_take (i:=12) (v:=.bool true) rfl (by kernel_rfl) (by kernel_rfl) (by kernel_rfl) (fun _ _ _ h=>h) (Or.inl ⟨by kernel_rfl,by intro w;go_simp⟩) ?_;refine wpAny_done (by kernel_rfl) ?_ _;go_simp;go_wp2_with fail;refine bodyPost_ret (v:=.agg #[.int .i64 4,.int .i64 0]) (by simp [results,Tryz.results100,go_sem, *]) rfl ⟨rfl,?_⟩
      repeat (first | exact HB2.out | apply Below.drew | refine Below.setCell ?_ (by first | omega | (simp <;> omega)) _)
  · have hC:C=avC n R x o:=by rw [HV.out.1,if_neg hc]
    have hV:V=0:=(by rw [HV.out.2,if_neg hc]);subst hV;rw [←hC];rw [←hC] at hc;clear HV hC;have hc1:(C != 0)=true:=(by simp [hc]);obtain ⟨r0,r1,rf⟩:=BX;go_wp2_with fail;refine bodyPost_ret (v:=.agg #[.int .i64 C,.int .i64 0]) (by simp [results,Tryz.results100,go_sem, *]) rfl ⟨rfl,?_⟩
    repeat (first | exact HB1.out | apply Below.drew | refine Below.setCell ?_ (by first | omega | (simp <;> omega)) _)
def rdB (q:Nat) (R:Nat→Rw) (x o key:Int):Bool:=decide (0≤fR q R key) && told (R (fR q R key).toNat).n (R (fR q R key).toNat).U x o
def rdV (q:Nat) (R:Nat→Rw) (x o key:Int):Int:=if rdB q R x o key=true then ((R (fR q R key).toNat).U (pS (R (fR q R key).toNat).n (R (fR q R key).toNat).U x o)).v else 0
theorem fR_cases (q:Nat) (R:Nat→Rw) (key:Int):fR q R key=-1∨∃j,j<q∧fR q R key=(j:Int):=by
  rcases fi_cases (fun i=>(R i).key == key) q with ⟨h1,-⟩ | ⟨j,h1,h2,-⟩
  · exact .inl h1
  · exact .inr ⟨j,h1,h2⟩
theorem rd_none {q:Nat} {R:Nat→Rw} {x o key:Int} (h:fR q R key=-1):rdB q R x o key=false∧rdV q R x o key=0:=by
  have e:rdB q R x o key=false:=(by simp [rdB,h]);exact ⟨e,if_neg (by simp [e])⟩
theorem rd_some {q:Nat} {R:Nat→Rw} {x o key:Int} {j:Nat} (h:fR q R key=(j:Int)):rdB q R x o key=told (R j).n (R j).U x o∧rdV q R x o key=if told (R j).n (R j).U x o=true then ((R j).U (pS (R j).n (R j).U x o)).v else 0:=by
  have e:rdB q R x o key=told (R j).n (R j).U x o:=by
    simp only [rdB,h,Int.toNat_natCast];rw [show decide ((0:Int)≤(j:Int))=true by simp];rfl
  refine ⟨e,?_⟩;unfold rdV;rw [e,h,Int.toNat_natCast]
theorem sS_told {n:Nat} {R:Nat→Vr} {x o:Int}:(told n R x o=true→sS n R x o=(pS n R x o:Int)∧pS n R x o<n)∧(told n R x o=false→sS n R x o=-1):=by
  constructor
  · intro h;have h1:=told_iff.1 h;exact ⟨if_pos h1,h1.1⟩
  · intro h;refine if_neg fun h1=>?_;rw [told_iff.2 h1] at h;cases h
theorem l6View_any (t:Tx) (bb o:Nat) (ai:Option Addr) (ci:Nat) (w:World) (hC:CTx w bb o t ai ci) :
    Calls Tryz.prog 73 #[.pointer (some ⟨bb,o,none⟩)] w fun e w'=>e=.returned (.agg #[.int .i64 t.am,.int .i64 t.id])∧Below w.heap.size w w':=by
  obtain ⟨x0,x1,-⟩:=hC;have y0:=fun ob:Obj=>cell_alloc x0 ob;have y1:=fun ob:Obj=>cell_alloc x1 ob;go_enter Tryz.func73,Tryz.ntmps73;go_wp2_with fail;go_region
  all_goals
    go_wp2_with fail;refine bodyPost_ret (v:=.agg #[.int .i64 t.am,.int .i64 t.id]) (by simp [results,Tryz.results73,go_sem]) rfl ⟨rfl,?_⟩
    repeat (first | with_reducible exact Below.refl _ _ | with_reducible apply Below.drew | with_reducible refine Below.setCell ?_ (by first | omega | (simp <;> omega)) _ | with_reducible refine Below.alloc ?_ (by first | omega | (simp <;> omega)) _)
set_option maxHeartbeats 4000000 in
theorem l6Read_any (E:En) (B:Nat) (a:Option Addr) (cap:Nat) (a':Option Addr) (cap':Nat) (x o key:Int) (w:World) (hq:E.q≤32) (hr:∀i,i<E.q→(E.R i).n≤12) (h:EBox w B a cap a' cap' E) :
    Calls Tryz.prog 72 #[.pointer (some ⟨B,0,none⟩),.agg #[.int .i64 x,.int .i64 o],.int .i64 key] w fun e w'=>e=.returned (.tuple #[.int .i64 (rdV E.q E.R x o key),.bool (rdB E.q E.R x o key)])∧Below w.heap.size w w':=by
  have HX:Hid (EBox w B a cap a' cap' E):=h;have HR:Hid (∀i,i<E.q→(E.R i).n≤12):=hr;have HXA:Hid (∀ob:Obj,EBox (w.alloc ob) B a cap a' cap' E):=fun ob=>h.below (below_new _ _)
  have HBX:Hid (∀ob:Obj,ob=.cells #[.int .i64 x,.int .i64 o] 122→Box2 (w.alloc ob) w.heap.size (.int .i64 x) (.int .i64 o)):=by
    rintro ob rfl;exact Box2.new w _ _ _
  clear h hr;go_enter Tryz.func72,Tryz.ntmps72;go_wp2_with fail;refine (l6Row_any E.q E.R B a' cap' key _ (by omega) (HXA.out _).1.2.2.2 (HXA.out _).2.2).mono ?_;rintro e w1 ⟨rfl,hw1⟩;have HX1:Hid (EBox w1 B a cap a' cap' E):=(by rw [hw1];exact HXA.out _);have HB1:Hid (Below w.heap.size w w1):=(by rw [hw1];exact below_new _ _);have HV1:Hid (Box2 w1 w.heap.size (.int .i64 x) (.int .i64 o)):=(by rw [hw1];exact HBX.out _ rfl);clear hw1 HXA HBX
  rcases fR_cases E.q E.R key with h1 | ⟨j,hj,h1⟩
  · have HE:Hid (rdB E.q E.R x o key=false∧rdV E.q E.R x o key=0):=rd_none h1;rw [h1];clear h1;go_wp2_with fail;go_ret2;exact ⟨by rw [HE.out.1,HE.out.2];rfl,HB1.out⟩
  have HE:Hid (rdB E.q E.R x o key=told (E.R j).n (E.R j).U x o∧rdV E.q E.R x o key=if told (E.R j).n (E.R j).U x o=true then ((E.R j).U (pS (E.R j).n (E.R j).U x o)).v else 0):=rd_some h1;rw [h1];obtain ⟨⟨b0,b1,b2,b3⟩,-,hRA⟩:=HX1.out
  rcases hRA with h | ⟨rb,ro,rfl,hrl,hrc⟩
  · omega
  obtain ⟨ri,rcp,⟨z0,z1⟩,hrv,-⟩:=hrc j hj;have HRV:Hid (VersAt w1 ri (E.R j).n (E.R j).U):=hrv;have HN:Hid ((E.R j).n≤12):=HR.out j hj;have hj1:(j:Int)<(E.q:Int):=(by omega);have hj0:(0:Int)≤(j:Int):=(by omega);have hj3:¬((j:Int)<0):=(by omega);obtain ⟨v0,v1⟩:=HV1.out;have hb0:Below w1.heap.size w1 w1.drew:=(Below.refl _ _).drew;clear hrc hrv h1 b0 b1 b2 z0;go_upto_region 4 with fail;go_cut [9] (fun cc wx=>cc=.int .i64 (sS (E.R j).n (E.R j).U x o)∧Hid (Below w1.heap.size w1 wx))
  case first=>
    go_region_held3 (fun w'=>Below w1.heap.size w1 w'∧w'.cell? ⟨B,3,none⟩=some (.slice (some ⟨rb,ro,none⟩) E.q cap')∧w'.cell? ⟨rb,ro+j*2+1,none⟩=some (.slice ri (E.R j).n rcp)∧w'.cell? ⟨w.heap.size,0,none⟩=some (.int .i64 x)∧w'.cell? ⟨w.heap.size,1,none⟩=some (.int .i64 o)) (go_keep)
      (first | (go_at_call 129;refine (l5Seen_any (E.R j).n (E.R j).U ri rcp x o _ HN.out (HRV.out.below (by simp [*]))).mono ?_;rintro e wq ⟨rfl,hbq⟩;have hU:=below_then (w:=w1) (by simp [*]) hbq;have hU0:=cell_below (B:=B) (o:=3) (v:=.slice (some ⟨rb,ro,none⟩) E.q cap') (by simp [*]) hbq;have hU1:=cell_below (B:=rb) (o:=ro+j*2+1) (v:=.slice ri (E.R j).n rcp) (by simp [*]) hbq;have hU2:=cell_below (B:=w.heap.size) (o:=0) (v:=.int .i64 x) (by simp [*]) hbq;have hU3:=cell_below (B:=w.heap.size) (o:=1) (v:=.int .i64 o) (by simp [*]) hbq))
    go_wp2_with fail;go_meet;exact ⟨rfl,by assumption⟩
  case rest=>
    obtain ⟨rfl,HBX⟩:=hcut;have HB2:Hid (Below w.heap.size w wc):=below_then HB1.out HBX.out;replace b3:=cell_below b3 HBX.out;replace z1:=cell_below z1 HBX.out;have HRV2:=HRV.out.below HBX.out;clear v0 v1 HBX hb0 hrl
    obtain ht | ht:=bool_or2 (told (E.R j).n (E.R j).U x o)
    · obtain ⟨hs1,hs2⟩:=sS_told.1 ht;have HE2:Hid (rdB E.q E.R x o key=true∧rdV E.q E.R x o key=((E.R j).U (pS (E.R j).n (E.R j).U x o)).v):=⟨HE.out.1.trans ht,HE.out.2.trans (if_pos ht)⟩;rw [hs1];clear hs1 HE ht;generalize hps:pS (E.R j).n (E.R j).U x o=ps at *
      rcases HRV2 with h | ⟨vb,vo,rfl,hvl,hvc⟩
      · omega
      obtain ⟨-,-,-,q3⟩:=hvc ps hs2;have hp1:(ps:Int)<((E.R j).n:Int):=(by omega);have hp0:(0:Int)≤(ps:Int):=(by omega);have hp3:¬((ps:Int)<0):=(by omega);clear hvc;go_wp2_with fail;go_ret2;exact ⟨by rw [HE2.out.1,HE2.out.2];rfl,HB2.out⟩
    · have HE2:Hid (rdB E.q E.R x o key=false∧rdV E.q E.R x o key=0):=⟨HE.out.1.trans ht,HE.out.2.trans (if_neg (by simp [ht]))⟩;rw [sS_told.2 ht];clear HE ht HRV2;go_wp2_with fail;go_ret2;exact ⟨by rw [HE2.out.1,HE2.out.2];rfl,HB2.out⟩
theorem eF_good {E:En} (h:eF E=0):(1≤E.nx∧E.nx≤999)∧(0≤E.ck∧E.ck≤1000000)∧(∀i,i<E.p→tF E.nx E.ck E.T i=0)∧(∀i,i<E.q→rF E.ck E.p E.T E.R i=0):=by
  unfold eF at h;split at h
  · omega
  · rename_i h1;split at h
    · omega
    · split at h
      · rename_i h2;split at h
        · rename_i h3
          have hn:inB E.nx 1 999=true:=by
            cases e:inB E.nx 1 999 with
            | true=>rfl
            | false=>exact absurd (.inl e) h1
          have hk:inB E.ck 0 1000000=true:=by
            cases e:inB E.ck 0 1000000 with
            | true=>rfl
            | false=>exact absurd (.inr e) h1
          exact ⟨inB_iff.1 hn,inB_iff.1 hk,fun i hi=>ffz_zero h2 i hi,fun i hi=>ffz_zero h3 i hi⟩
        · rename_i h3;exact absurd h h3
      · rename_i h2;exact absurd h h2
theorem rows12 {E:En} (h:eF E=0):∀i,i<E.q→(E.R i).n≤12:=fun i hi=>(chF_good (rF_good ((eF_good h).2.2.2 i hi)).2.2.1).1
theorem undos60 {E:En} (h:eF E=0):∀i,i<E.p→(E.T i).n≤60:=fun i hi=>usF_le (tF_good ((eF_good h).2.2.1 i hi)).2.2.2.2
theorem ask_open {E:En} {id:Int} (h:askC E id=0):eF E=0∧∃j,j<E.p∧askP E id=(j:Int)∧(E.T j).id=id:=by
  have h0:eF E=0:=by
    by_cases e:eF E=0
    · exact e
    · rw [(ask_bad (id:=id) e).1] at h;exact absurd h e
  refine ⟨h0,?_⟩
  rcases fT_cases E id with h1 | ⟨j,hj,h1,h2⟩
  · rw [(ask_none h0 h1).1] at h;cases h
  · refine ⟨j,hj,?_,h2⟩;unfold askP;rw [if_pos h,h1]
theorem view_ok {E:En} (h:eF E=0) {j:Nat} (hj:j<E.p):vwB (E.T j).am (E.T j).id=true:=by
  obtain ⟨h1,h2,h3,-⟩:=eF_good h;have hi:=(tF_good (h3 j hj)).1;unfold tIn at hi;simp only [Bool.and_eq_true] at hi;have a1:=inB_iff.1 hi.1.1.1;have a2:=inB_iff.1 hi.1.1.2;unfold vwB;rw [inB_iff.2 (show 0≤(E.T j).am∧(E.T j).am≤1000000 by omega),inB_iff.2 (show 0≤(E.T j).id∧(E.T j).id≤999 by omega)];rfl
def rkC (E:En) (id key:Int):Int:=if askC E id=0 then (if inB key 0 31=true then (if rdB E.q E.R (E.T (askP E id).toNat).am (E.T (askP E id).toNat).id key=true then 0 else 4) else 3) else askC E id
def rkV (E:En) (id key:Int):Int:=if askC E id=0 then (if inB key 0 31=true then rdV E.q E.R (E.T (askP E id).toNat).am (E.T (askP E id).toNat).id key else 0) else 0
theorem rk_bad {E:En} {id key:Int} (h:askC E id≠0):rkC E id key=askC E id∧rkV E id key=0:=⟨if_neg h,if_neg h⟩
theorem rk_key {E:En} {id key:Int} (h:askC E id=0) (hk:inB key 0 31=false):rkC E id key=3∧rkV E id key=0:=by
  constructor
  · unfold rkC;rw [if_pos h,if_neg (by simp [hk])]
  · unfold rkV;rw [if_pos h,if_neg (by simp [hk])]
theorem rk_ok {E:En} {id key:Int} {j:Nat} (h:askC E id=0) (hk:inB key 0 31=true) (hj:askP E id=(j:Int)):(rkC E id key=if rdB E.q E.R (E.T j).am (E.T j).id key=true then 0 else 4)∧rkV E id key=rdV E.q E.R (E.T j).am (E.T j).id key:=by
  constructor
  · unfold rkC;rw [if_pos h,if_pos hk,hj,Int.toNat_natCast]
  · unfold rkV;rw [if_pos h,if_pos hk,hj,Int.toNat_natCast]
theorem rdV_0 {q:Nat} {R:Nat→Rw} {x o key:Int} (h:rdB q R x o key=false):rdV q R x o key=0:=if_neg (by simp [h])
set_option maxHeartbeats 4000000 in
theorem specRk_any (E:En) (a:Option Addr) (cap:Nat) (a':Option Addr) (cap':Nat) (id key:Int) (w:World) (hs:SmallE E) (h:EngAt w a a' E) :
    Calls Tryz.prog 135 #[.agg #[.int .i64 E.nx,.int .i64 E.ck,.slice a E.p cap,.slice a' E.q cap'],.int .i64 id,.int .i64 key] w fun e w'=>e=.returned (.agg #[.int .i64 (rkC E id key),.int .i64 (rkV E id key)])∧Below w.heap.size w w':=by
  have HX:Hid (EngAt w a a' E):=h;have HS:Hid (SmallE E):=hs;clear h hs
  have HBX:Hid (∀o1 o2:Obj,o1=.cells #[.int .i64 E.nx,.int .i64 E.ck,.slice a E.p cap,.slice a' E.q cap'] 30→o2=.cells #[.int .i64 0,.int .i64 0] 84→
      Box4 ((w.alloc o1).alloc o2) w.heap.size (.int .i64 E.nx) (.int .i64 E.ck) (.slice a E.p cap) (.slice a' E.q cap')∧Box2 ((w.alloc o1).alloc o2) (w.heap.size+1) (.int .i64 0) (.int .i64 0)∧(∀i,((w.alloc o1).alloc o2).frozen? ⟨w.heap.size+1,i,none⟩=false)∧Below w.heap.size w ((w.alloc o1).alloc o2)∧((w.alloc o1).alloc o2).heap.size=w.heap.size+2):=by
    rintro o1 o2 rfl rfl;exact ⟨(Box4.new w _ _ _ _ _).alloc _,by simp [Box2,go_sem],fun i=>by simp [go_sem],((Below.refl _ _).alloc (Nat.le_refl _) _).alloc (by simp) _,by simp⟩
  go_enter Tryz.func135,Tryz.ntmps135;go_wp2_with fail;obtain ⟨hb4,hb2,hbf,hbw,hbs⟩:=HBX.out _ _ rfl rfl;refine (l6Asked_any E w.heap.size a cap a' cap' id _ HS.out ⟨hb4,HX.out.below hbw⟩).mono ?_;rintro e w1 ⟨rfl,hb1⟩;have HB4:Hid (Box4 w1 w.heap.size (.int .i64 E.nx) (.int .i64 E.ck) (.slice a E.p cap) (.slice a' E.q cap')):=hb4.below hb1;obtain ⟨r0,r1⟩:=hb2.below hb1;have rf:∀i,w1.frozen? ⟨w.heap.size+1,i,none⟩=false:=fun i=>((bcell2 hb1).2 _ _ (by rw [hbs];omega)).trans (hbf i);have HB1:Hid (Below w.heap.size w w1):=below_then hbw hb1;have hs1:w.heap.size+2≤w1.heap.size:=(by have:=hb1.size;rw [hbs] at this;exact this);clear hb1 hb4 hb2 hbf hbw hbs HBX
  by_cases hc:askC E id=0
  case neg=>
    have HE:Hid (rkC E id key=askC E id∧rkV E id key=0):=rk_bad hc;have hc2:(askC E id != 0)=true:=(by simp [hc]);clear hc;generalize askC E id=uu at *;generalize askP E id=up at *;go_wp2_with fail;refine bodyPost_ret (v:=.agg #[.int .i64 uu,.int .i64 0]) (by simp [results,Tryz.results135,go_sem, *]) rfl ⟨by rw [HE.out.1,HE.out.2],?_⟩
    repeat (first | with_reducible exact HB1.out | with_reducible refine Below.setCell ?_ (by first | omega | (simp <;> omega)) _)
  obtain ⟨h0,j,hj,hp,-⟩:=ask_open hc
  obtain hk | hk:=bool_or2 (inB key 0 31)
  case inr=>
    have HE:Hid (rkC E id key=3∧rkV E id key=0):=rk_key hc hk;rw [hc,hp];clear hc hp;go_wp2_with (first | (go_at_call 61;refine (l1Key_any _ _).mono ?_;rintro e w' ⟨rfl,hw'⟩;rw [hw'];clear hw'));refine bodyPost_ret (v:=.agg #[.int .i64 3,.int .i64 0]) (by simp [results,Tryz.results135,go_sem, *]) rfl ⟨by rw [HE.out.1,HE.out.2],?_⟩
    repeat (first | with_reducible exact HB1.out | with_reducible refine Below.setCell ?_ (by first | omega | (simp <;> omega)) _)
  have HE:Hid ((rkC E id key=if rdB E.q E.R (E.T j).am (E.T j).id key=true then 0 else 4)∧rkV E id key=rdV E.q E.R (E.T j).am (E.T j).id key):=rk_ok hc hk hp;have HR12:Hid (∀i,i<E.q→(E.R i).n≤12):=rows12 h0;have h32:=(eF_pq h0).2;have hp20:=(eF_pq h0).1;have HX1:Hid (EngAt w1 a a' E):=HX.out.below HB1.out;rw [hc,hp]
  rcases HX1.out.1 with h | ⟨bb,off,rfl,hl,hcc⟩
  · omega
  obtain ⟨ti,tc,hCT,-,-⟩:=hcc j hj;have HCT:Hid (CTx w1 bb (off+j*5) (E.T j) ti tc):=hCT;have hj1:(j:Int)<(E.p:Int):=(by omega);have hj0:(0:Int)≤(j:Int):=(by omega);obtain ⟨b0,b1,b2,b3⟩:=HB4.out;clear hc hp h0 hcc hCT b0 b1 b3;go_wp2_with (first | (go_at_call 61;refine (l1Key_any _ _).mono ?_;rintro e w' ⟨rfl,hw'⟩;rw [hw'];clear hw'));refine (l6View_any (E.T j) bb (off+j*5) ti tc w1 HCT.out).mono ?_;rintro e w2 ⟨rfl,hb2⟩;have HB2:Hid (Below w.heap.size w w2):=below_then HB1.out hb2;have HX2:Hid (EBox w2 w.heap.size (some ⟨bb,off,none⟩) cap a' cap' E):=⟨HB4.out.below hb2,HX1.out.below hb2⟩;replace r0:=cell_below r0 hb2;replace r1:=cell_below r1 hb2;replace rf:∀i,w2.frozen? ⟨w.heap.size+1,i,none⟩=false:=fun i=>((bcell2 hb2).2 _ _ (by omega)).trans (rf i);have hs2:w.heap.size+2≤w2.heap.size:=Nat.le_trans hs1 hb2.size;clear hb2 b2 HB1 HX1 HB4 HCT;go_wp2_with fail;refine (l6Read_any E w.heap.size _ cap a' cap' (E.T j).am (E.T j).id key w2 h32 HR12.out HX2.out).mono ?_;rintro e w3 ⟨rfl,hb3⟩;have HB3:Hid (Below w.heap.size w w3):=below_then HB2.out hb3;replace r0:=cell_below r0 hb3;replace r1:=cell_below r1 hb3;replace rf:∀i,w3.frozen? ⟨w.heap.size+1,i,none⟩=false:=fun i=>((bcell2 hb3).2 _ _ (by omega)).trans (rf i);clear hb3 HB2 HX2
  obtain hb | hb:=bool_or2 (rdB E.q E.R (E.T j).am (E.T j).id key)
  · have HE2:Hid (rkC E id key=0∧rkV E id key=rdV E.q E.R (E.T j).am (E.T j).id key):=⟨HE.out.1.trans (if_pos hb),HE.out.2⟩;rw [hb];clear HE hb;generalize rdV E.q E.R (E.T j).am (E.T j).id key=vv at *;go_wp2_with fail;refine bodyPost_ret (v:=.agg #[.int .i64 0,.int .i64 vv]) (by simp [results,Tryz.results135,go_sem, *]) rfl ⟨by rw [HE2.out.1,HE2.out.2],?_⟩
    repeat (first | with_reducible exact HB3.out | with_reducible refine Below.setCell ?_ (by first | omega | (simp <;> omega)) _)
  · have HE2:Hid (rkC E id key=4∧rkV E id key=0):=⟨HE.out.1.trans (if_neg (by simp [hb])),HE.out.2.trans (rdV_0 hb)⟩;rw [hb];clear HE hb;generalize rdV E.q E.R (E.T j).am (E.T j).id key=vv at *;go_wp2_with fail;refine bodyPost_ret (v:=.agg #[.int .i64 4,.int .i64 0]) (by simp [results,Tryz.results135,go_sem, *]) rfl ⟨by rw [HE2.out.1,HE2.out.2],?_⟩
    repeat (first | with_reducible exact HB3.out | with_reducible refine Below.setCell ?_ (by first | omega | (simp <;> omega)) _)
theorem viewOf_any (t:Tx) (ai:Option Addr) (ci:Nat) (w:World) :
    Calls Tryz.prog 102 #[.agg #[.int .i64 t.id,.int .i64 t.am,.int .i64 t.st,.int .i64 t.dn,.slice ai t.n ci]] w fun e w'=>e=.returned (.agg #[.int .i64 t.am,.int .i64 t.id])∧Below w.heap.size w w':=by
  go_enter Tryz.func102,Tryz.ntmps102;go_wp2_with fail;refine bodyPost_ret (v:=.agg #[.int .i64 t.am,.int .i64 t.id]) (by simp [results,Tryz.results102,go_sem]) rfl ⟨rfl,?_⟩
  repeat (first | with_reducible exact Below.refl _ _ | with_reducible refine Below.setCell ?_ (by first | omega | (simp <;> omega)) _ | with_reducible refine Below.alloc ?_ (by first | omega | (simp <;> omega)) _)
theorem chain_le {E:En} {key:Int} {vn:Nat} {vU:Nat→Vr} (hr:∀i,i<E.q→(E.R i).n≤12) (h:(fR E.q E.R key=-1∧vn=0)∨∃j,j<E.q∧fR E.q E.R key=(j:Int)∧vn=(E.R j).n∧vU=(E.R j).U):vn≤9223372036854775807:=by
  rcases h with ⟨_,h⟩ | ⟨j,hj,_,h,_⟩
  · omega
  · have:=hr j hj;omega
theorem seen_rd {E:En} (h0:eF E=0) {j:Nat} (hj:j<E.p) {key:Int} {vn:Nat} {vU:Nat→Vr} (h:(fR E.q E.R key=-1∧vn=0)∨∃j,j<E.q∧fR E.q E.R key=(j:Int)∧vn=(E.R j).n∧vU=(E.R j).U) :
    (seC vn vU (E.T j).am (E.T j).id=if rdB E.q E.R (E.T j).am (E.T j).id key=true then 0 else 4)∧seV vn vU (E.T j).am (E.T j).id=rdV E.q E.R (E.T j).am (E.T j).id key:=by
  have hv:=view_ok h0 hj
  rcases h with ⟨h1,rfl⟩ | ⟨i,hi,h1,rfl,rfl⟩
  · have ha:avC 0 vU (E.T j).am (E.T j).id=0:=by
      unfold avC;rw [if_pos (by rfl),if_pos hv]
    have ht:told 0 vU (E.T j).am (E.T j).id=false:=by
      unfold told;rw [show decide (pS 0 vU (E.T j).am (E.T j).id<0)=false from decide_eq_false (Nat.not_lt_zero _)];rfl
    obtain ⟨k1,k2⟩:=rd_none (x:=(E.T j).am) (o:=(E.T j).id) h1;rw [k1,k2];unfold seC seV;rw [if_pos ha,if_pos ha,ht];exact ⟨rfl,rfl⟩
  · have ha:avC (E.R i).n (E.R i).U (E.T j).am (E.T j).id=0:=by
      unfold avC;rw [if_pos (rF_good ((eF_good h0).2.2.2 i hi)).2.2.1,if_pos hv]
    obtain ⟨k1,k2⟩:=rd_some (x:=(E.T j).am) (o:=(E.T j).id) h1;rw [k1,k2];unfold seC seV;rw [if_pos ha,if_pos ha];exact ⟨rfl,rfl⟩
set_option maxHeartbeats 16000000 in
theorem implRk_any (E:En) (a:Option Addr) (cap:Nat) (a':Option Addr) (cap':Nat) (id key:Int) (w:World) (hs:SmallE E) (h:EngAt w a a' E) :
    Calls Tryz.prog 44 #[.agg #[.int .i64 E.nx,.int .i64 E.ck,.slice a E.p cap,.slice a' E.q cap'],.int .i64 id,.int .i64 key] w fun e w'=>e=.returned (.agg #[.int .i64 (rkC E id key),.int .i64 (rkV E id key)])∧Below w.heap.size w w':=by
  have HXA:Hid (EngAt w a a' E):=h;have HS:Hid (SmallE E):=hs;clear h hs
  have HBX:Hid (∀o1 o2:Obj,o1=.cells #[.int .i64 E.nx,.int .i64 E.ck,.slice a E.p cap,.slice a' E.q cap'] 30→o2=.cells #[.int .i64 0,.int .i64 0] 84→
      Box4 ((w.alloc o1).alloc o2) w.heap.size (.int .i64 E.nx) (.int .i64 E.ck) (.slice a E.p cap) (.slice a' E.q cap')∧Box2 ((w.alloc o1).alloc o2) (w.heap.size+1) (.int .i64 0) (.int .i64 0)∧(∀i,((w.alloc o1).alloc o2).frozen? ⟨w.heap.size+1,i,none⟩=false)∧Below w.heap.size w ((w.alloc o1).alloc o2)∧((w.alloc o1).alloc o2).heap.size=w.heap.size+2):=by
    rintro o1 o2 rfl rfl;exact ⟨(Box4.new w _ _ _ _ _).alloc _,by simp [Box2,go_sem],fun i=>by simp [go_sem],((Below.refl _ _).alloc (Nat.le_refl _) _).alloc (by simp) _,by simp⟩
  go_enter Tryz.func44,Tryz.ntmps44;go_wp2_with fail;obtain ⟨hb4,hb2,hbf,hbw,hbs⟩:=HBX.out _ _ rfl rfl;refine (placeOfOpen_any E a cap a' cap' id _ HS.out (HXA.out.below hbw)).mono ?_;rintro e W ⟨rfl,hb1⟩;obtain ⟨c0,c1,c2,c3⟩:=hb4.below hb1;obtain ⟨r0,r1⟩:=hb2.below hb1;have rf:∀i,W.frozen? ⟨w.heap.size+1,i,none⟩=false:=fun i=>((bcell2 hb1).2 _ _ (by rw [hbs];omega)).trans (hbf i);have HB1:Hid (Below w.heap.size w W):=below_then hbw hb1;have hs1:w.heap.size+2≤W.heap.size:=(by have:=hb1.size;rw [hbs] at this;exact this);clear hb1 hb4 hb2 hbf hbw hbs HBX
  by_cases hc:askC E id=0
  case neg=>
    have HE:Hid (rkC E id key=askC E id∧rkV E id key=0):=rk_bad hc;have hc2:(askC E id != 0)=true:=(by simp [hc]);clear hc c0 c1 c2 c3;generalize askC E id=uu at *;generalize askP E id=up at *;go_wp2_with fail;refine bodyPost_ret (v:=.agg #[.int .i64 uu,.int .i64 0]) (by simp [results,Tryz.results44,go_sem, *]) rfl ⟨by rw [HE.out.1,HE.out.2],?_⟩
    repeat (first | with_reducible exact HB1.out | with_reducible refine Below.setCell ?_ (by first | omega | (simp <;> omega)) _)
  obtain ⟨h0,j,hj,hp,-⟩:=ask_open hc
  obtain hk | hk:=bool_or2 (inB key 0 31)
  case inr=>
    have HE:Hid (rkC E id key=3∧rkV E id key=0):=rk_key hc hk;rw [hc,hp];clear hc hp c0 c1 c2 c3;go_wp2_with (first | (go_at_call 99;refine (isKey_any _ _).mono ?_;rintro e w' ⟨rfl,hw'⟩;rw [hw'];clear hw'));refine bodyPost_ret (v:=.agg #[.int .i64 3,.int .i64 0]) (by simp [results,Tryz.results44,go_sem, *]) rfl ⟨by rw [HE.out.1,HE.out.2],?_⟩
    repeat (first | with_reducible exact HB1.out | with_reducible refine Below.setCell ?_ (by first | omega | (simp <;> omega)) _)
  have HE:Hid ((rkC E id key=if rdB E.q E.R (E.T j).am (E.T j).id key=true then 0 else 4)∧rkV E id key=rdV E.q E.R (E.T j).am (E.T j).id key):=rk_ok hc hk hp;have HSR:Hid (∀i,i<E.q→(E.R i).n≤12):=rows12 h0;have HSO:Hid (∀j,j<E.q→∀i,i<j→(E.R i).key<(E.R j).key):=keys_rise (eF_good h0).2.2.2
  have HSE:Hid (∀vn vU,((fR E.q E.R key=-1∧vn=0)∨∃j,j<E.q∧fR E.q E.R key=(j:Int)∧vn=(E.R j).n∧vU=(E.R j).U)→(seC vn vU (E.T j).am (E.T j).id=rkC E id key)∧seV vn vU (E.T j).am (E.T j).id=rkV E id key):=fun vn vU h=>by
    rw [HE.out.1,HE.out.2];exact seen_rd h0 hj h
  have h32:=(eF_pq h0).2;have hp20:=(eF_pq h0).1;have HEX:Hid (EngAt W a a' E):=HXA.out.below HB1.out;rw [hc,hp]
  rcases HEX.out.1 with h | ⟨bb,off,rfl,hl,hcc⟩
  · omega
  obtain ⟨ti,tc,⟨d0,d1,d2,d3,d4⟩,-,-⟩:=hcc j hj;have hj1:(j:Int)<(E.p:Int):=(by omega);have hj0:(0:Int)≤(j:Int):=(by omega);have hrlt:w.heap.size+1<W.heap.size:=(by omega);have e0:=r0;have e1:=r1;have ef:=rf;have HX:Hid (Below W.heap.size W W):=Below.refl _ _;clear hc hp h0 hcc HE;go_upto_region 6 with (first | (go_at_call 99;refine (isKey_any _ _).mono ?_;rintro e w' ⟨rfl,hw'⟩;rw [hw'];clear hw'));go_region_law (first | (go_simp;go_at_call 101;refine (chainOfKey_any E _ cap a' cap' key _ h32 HSO.out (HEX.out.below (by repeat (first | exact HX.out | apply Below.drew)))).mono ?_;rintro e wc ⟨va,vn,vc,vU,rfl,hbx,hvc,hcc⟩;have HVC:Hid (VersAt wc va vn vU):=hvc.below hbx;have HCC:Hid ((fR E.q E.R key=-1∧vn=0)∨∃j,j<E.q∧fR E.q E.R key=(j:Int)∧vn=(E.R j).n∧vU=(E.R j).U):=hcc;clear hvc hcc;have HX:Hid (Below W.heap.size W wc):=below_then (by repeat (first | exact HX.out | apply Below.drew)) hbx;have b0:=cell_below c0 HX.out;have b1:=cell_below c1 HX.out;have b2:=cell_below c2 HX.out;have b3:=cell_below c3 HX.out;have t0:=cell_below d0 HX.out;have t1:=cell_below d1 HX.out;have t2:=cell_below d2 HX.out;have t3:=cell_below d3 HX.out;have t4:=cell_below d4 HX.out;have r0:=cell_below e0 HX.out;have r1:=cell_below e1 HX.out;have rf:=fun i:Nat=>(HX.out.frozen (p:=⟨w.heap.size+1,i,none⟩) hrlt).trans (ef i);clear hbx) | (go_simp;go_at_call 102;refine (viewOf_any (E.T j) ti tc _).mono ?_;rintro e wv ⟨rfl,hbx⟩;(first | (have HVC:Hid (VersAt wv va vn vU):=(HVC.out.below hbx)) | skip);have HX:Hid (Below W.heap.size W wv):=below_then (by repeat (first | exact HX.out | apply Below.drew)) hbx;have b0:=cell_below c0 HX.out;have b1:=cell_below c1 HX.out;have b2:=cell_below c2 HX.out;have b3:=cell_below c3 HX.out;have t0:=cell_below d0 HX.out;have t1:=cell_below d1 HX.out;have t2:=cell_below d2 HX.out;have t3:=cell_below d3 HX.out;have t4:=cell_below d4 HX.out;have r0:=cell_below e0 HX.out;have r1:=cell_below e1 HX.out;have rf:=fun i:Nat=>(HX.out.frozen (p:=⟨w.heap.size+1,i,none⟩) hrlt).trans (ef i);clear hbx) | (go_simp;go_at_call 100;refine (implSe_any vn vU va vc (E.T j).am (E.T j).id _ (chain_le HSR.out HCC.out) HVC.out).mono ?_;rintro e ws ⟨rfl,hbx⟩;have HX:Hid (Below W.heap.size W ws):=below_then (by repeat (first | exact HX.out | apply Below.drew)) hbx;have b0:=cell_below c0 HX.out;have b1:=cell_below c1 HX.out;have b2:=cell_below c2 HX.out;have b3:=cell_below c3 HX.out;have t0:=cell_below d0 HX.out;have t1:=cell_below d1 HX.out;have t2:=cell_below d2 HX.out;have t3:=cell_below d3 HX.out;have t4:=cell_below d4 HX.out;have r0:=cell_below e0 HX.out;have r1:=cell_below e1 HX.out;have rf:=fun i:Nat=>(HX.out.frozen (p:=⟨w.heap.size+1,i,none⟩) hrlt).trans (ef i);clear hbx))
  all_goals
    obtain ⟨hs1,hs2⟩:=HSE.out _ _ HCC.out;rw [hs1,hs2];go_wp2_with fail;refine bodyPost_ret (v:=.agg #[.int .i64 (rkC E id key),.int .i64 (rkV E id key)]) (by simp [results,Tryz.results44,go_sem, *]) rfl ⟨rfl,?_⟩;have hbF:=below_then HB1.out HX.out
    repeat (first | with_reducible exact hbF | with_reducible refine Below.setCell ?_ (by first | omega | (simp <;> omega)) _)
end Go.Proofs.YtjdodbiphijjgaaGreat
