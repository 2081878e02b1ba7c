import Derived.Test.YtjdodbiphijjgaaGreatJVg
import Derived.Deep.RegionLaw
namespace Go.Proofs.YtjdodbiphijjgaaGreat
open Go.RowKit Go.Deep
set_option linter.unusedVariables false
set_option maxRecDepth 20000
theorem bool_or (b:Bool):b=true∨b=false:=by cases b <;> simp
set_option maxHeartbeats 4000000 in
theorem l6Undos_any (n:Nat) (U:Nat→Ud) (b o:Nat) (ai:Option Addr) (ci:Nat) (w:World) (hn:n≤1048576) (hc:w.cell? ⟨b,o+4,none⟩=some (.slice ai n ci)) (h:UndsAt w ai n U) :
    Calls Tryz.prog 187 #[.pointer (some ⟨b,o,none⟩)] w fun e w'=>e=.returned (.int .i64 (usF n U))∧Below w.heap.size w w':=by
  by_cases h60:60<n
  · have HE:Hid (usF n U=2):=if_pos h60;have h6:(60:Int)<(n:Int):=(by omega);clear h;go_enter Tryz.func187,Tryz.ntmps187;go_wp2_with fail;go_ret;exact ⟨ret_int HE.out.symm,Below.refl _ _⟩
  have HA:Hid (UndsAt w ai n U):=h;have HC0:Hid (w.cell? ⟨b,o+4,none⟩=some (.slice ai n ci)):=hc;have HU:Hid (usF n U=ffz (fun j=>uF (U j)) n 0):=if_neg h60;have h6:¬((60:Int)<(n:Int)):=(by omega);clear h;go_enter Tryz.func187,Tryz.ntmps187;go_wp2_with fail;clear hc;go_loopw [3,4] (fun i _ wr=>∃k:Nat,k≤n∧i=.int .i64 k∧Hid (usF n U=ffz (fun j=>uF (U j)) (n-k) k)∧Hid (Below w.heap.size w wr)) (fun i _ _=>n-(intOf i).toNat)
  case atStart=>exact ⟨0,Nat.zero_le _,rfl,HU,Below.refl _ _⟩
  case round=>
    obtain ⟨k,hk,rfl,HC,HB⟩:=hrel;have hc1:=cell_below HC0.out HB.out
    by_cases hlt:k<n
    · have hlt':(k:Int)<(n:Int):=by omega
      have hk0:(0:Int)≤(k:Int):=(by omega)
      rcases HA.out.below HB.out with h | ⟨bb,off,rfl,hl,hcc⟩
      · omega
      obtain ⟨x0,x1,x2,x3⟩:=hcc k hlt;have HE0:Hid (usF n U=_):=HC.out.trans (ffz_at _ hlt);have HBN:Hid (∀o:Obj,Below w.heap.size w (wr.alloc o)):=fun o=>below_then HB.out (below_new _ _);clear hcc HC;have HX:Hid (uF (U k)=if inB (U k).k 0 31=false∨inB (U k).v 0 9999=false then 3 else if uB (U k)=true then 1 else 0):=rfl
      obtain hk1 | hk1:=bool_or (inB (U k).k 0 31)
      · obtain hv1 | hv1:=bool_or (inB (U k).v 0 9999)
        · have HX2:Hid (uF (U k)=if uB (U k)=true then 1 else 0):=by rw [HX.out,if_neg (by simp [hk1,hv1])];rfl
          clear HX
          obtain hb1 | hb1:=bool_or (uB (U k))
          · have HE:Hid (usF n U=1):=by
              have e:uF (U k)=1:=(by rw [HX2.out,if_pos hb1]);exact (HE0.out.trans (if_neg (by show uF (U k)≠0;rw [e];decide))).trans e
            clear HE0 HX2;unfold uB at hb1;generalize U k=u at *;obtain ⟨uk,uh,ug,uv⟩:=u;dsimp only at *
            obtain hz | hz:=bool_or (uv != 0) <;> cases uh <;> cases ug <;> try (simp [hz] at hb1)
            all_goals
              go_wp2_with (first | (go_at_call 61;refine (l1Key_any _ _).mono ?_;rintro e w' ⟨rfl,rfl⟩) | (go_at_call 62;refine (l1Value_any _ _).mono ?_;rintro e w' ⟨rfl,rfl⟩));go_ret;exact ⟨ret_int HE.out.symm,HBN.out _⟩
          · have HE:Hid (usF n U=ffz (fun j=>uF (U j)) (n-(k+1)) (k+1)):=by
              have e:uF (U k)=0:=(by rw [HX2.out,if_neg (by simp [hb1])]);exact HE0.out.trans (if_pos e)
            clear HE0 HX2;unfold uB at hb1;generalize U k=u at *;obtain ⟨uk,uh,ug,uv⟩:=u;dsimp only at *
            obtain hz | hz:=bool_or (uv != 0) <;> cases uh <;> cases ug <;> try (simp [hz] at hb1)
            all_goals
              go_wp2_with (first | (go_at_call 61;refine (l1Key_any _ _).mono ?_;rintro e w' ⟨rfl,rfl⟩) | (go_at_call 62;refine (l1Value_any _ _).mono ?_;rintro e w' ⟨rfl,rfl⟩));go_roundw
              case rel=>exact ⟨k+1,hlt,by go_num,HE,HBN.out _⟩
              case measure=>simp [intOf];omega
        · have HE:Hid (usF n U=3):=by
            have e:uF (U k)=3:=(by rw [HX.out,if_pos (.inr hv1)]);exact (HE0.out.trans (if_neg (by show uF (U k)≠0;rw [e];decide))).trans e
          clear HE0 HX;generalize U k=u at *;go_wp2_with (first | (go_at_call 61;refine (l1Key_any _ _).mono ?_;rintro e w' ⟨rfl,rfl⟩) | (go_at_call 62;refine (l1Value_any _ _).mono ?_;rintro e w' ⟨rfl,rfl⟩));go_ret;exact ⟨ret_int HE.out.symm,HBN.out _⟩
      · have HE:Hid (usF n U=3):=by
          have e:uF (U k)=3:=(by rw [HX.out,if_pos (.inl hk1)]);exact (HE0.out.trans (if_neg (by show uF (U k)≠0;rw [e];decide))).trans e
        clear HE0 HX;generalize U k=u at *;go_wp2_with (first | (go_at_call 61;refine (l1Key_any _ _).mono ?_;rintro e w' ⟨rfl,rfl⟩) | (go_at_call 62;refine (l1Value_any _ _).mono ?_;rintro e w' ⟨rfl,rfl⟩));go_ret;exact ⟨ret_int HE.out.symm,HBN.out _⟩
    · have HE:Hid (usF n U=0):=by
        have h:=HC.out;rw [show n-k=0 by omega] at h;exact h
      clear HC;have hnl:¬((k:Int)<(n:Int)):=(by omega);go_wp2_with fail;go_ret;exact ⟨ret_int HE.out.symm,HB.out⟩
def BoxR (w:World) (B:Nat) (c0 c1:Value):Prop:=w.cell? ⟨B,0,none⟩=some c0∧w.cell? ⟨B,1,none⟩=some c1∧∀i,w.frozen? ⟨B,i,none⟩=false
theorem BoxR.below {w w':World} {B:Nat} {c0 c1:Value} (h:BoxR w B c0 c1) (hb:Below w.heap.size w w'):BoxR w' B c0 c1:=
  ⟨cell_below h.1 hb,cell_below h.2.1 hb,fun i=>(hb.frozen (p:=⟨B,i,none⟩) (show B<w.heap.size from Go.block_lt_of_cell h.1)).trans (h.2.2 i)⟩
theorem BoxR.new (w:World) (c0 c1:Value) (T:TypeId):BoxR (w.alloc (.cells #[c0,c1] T)) w.heap.size c0 c1:=by simp [BoxR,go_sem]
theorem wrt_open {n:Nat} {R:Nat→Vr} (hc:chF n R=0) (h:fop n R=true):0<n∧wrt n R=(R 0).t∧¬(R 0).t=0:=by
  have ⟨h1,h2⟩:0<n∧(R 0).a=0:=(by simpa [fop] using h);have hg:=((chF_good hc).2 0 h1).1
  have ht:inB (R 0).t 1 999=true:=by
    simp only [vR,Bool.and_eq_true] at hg;exact hg.1.1
  rw [inB_iff] at ht;exact ⟨h1,if_pos ⟨h1,h2⟩,by omega⟩
theorem wrt_shut {n:Nat} {R:Nat→Vr} (h:fop n R=false):wrt n R=0:=by
  have:¬(0<n∧(R 0).a=0):=by
    intro ⟨h1,h2⟩;simp [fop,h1,h2] at h
  exact if_neg this
def vwB (x o:Int):Bool:=inB x 0 1000000 && inB o 0 999
def avC (n:Nat) (R:Nat→Vr) (x o:Int):Int:=if chF n R=0 then (if vwB x o=true then 0 else 3) else chF n R
theorem chainViewFault_any (n:Nat) (R:Nat→Vr) (a:Option Addr) (cap:Nat) (x o:Int) (w:World) (hn:n≤9223372036854775807) (h:VersAt w a n R) :
    Calls Tryz.prog 168 #[.slice a n cap,.agg #[.int .i64 x,.int .i64 o]] w fun e w'=>e=.returned (.int .i64 (avC n R x o))∧Below w.heap.size w w':=by
  have HA:Hid (VersAt w a n R):=h;have HV:Hid (avC n R x o=if chF n R=0 then (if vwB x o=true then 0 else 3) else chF n R):=rfl;clear h;generalize avC n R x o=C at *;go_enter Tryz.func168,Tryz.ntmps168;go_wp2_with fail;refine (implChF_any n R a cap _ hn (HA.out.below (below_new _ _))).mono ?_;rintro e w1 ⟨rfl,hb1⟩;obtain ⟨q0,q1⟩:=(Box2.new w (.int .i64 x) (.int .i64 o) 122).below hb1;have HB1:Hid (Below w.heap.size w w1):=below_then (below_new _ _) hb1;clear hb1
  by_cases hc:chF n R=0
  · rw [hc]
    by_cases h1:inB x 0 1000000=true
    · by_cases h2:inB o 0 999=true
      · have hC:C=0:=by rw [HV.out,if_pos hc,if_pos (by simp [vwB,h1,h2])]
        subst hC;go_wp2_with fail;refine (isAt_any _ _).mono ?_;rintro e w2 ⟨rfl,rfl⟩;rw [h1];go_wp2_with fail;refine (within_any _ _ _ _).mono ?_;rintro e w2 ⟨rfl,rfl⟩;rw [h2];go_wp2_with fail;go_ret;exact ⟨rfl,HB1.out⟩
      · have h3:inB o 0 999=false:=by simpa using h2
        have hC:C=3:=(by rw [HV.out,if_pos hc,if_neg (by simp [vwB,h3])]);subst hC;go_wp2_with fail;refine (isAt_any _ _).mono ?_;rintro e w2 ⟨rfl,rfl⟩;rw [h1];go_wp2_with fail;refine (within_any _ _ _ _).mono ?_;rintro e w2 ⟨rfl,rfl⟩;rw [h3];go_wp2_with fail;go_ret;exact ⟨rfl,HB1.out⟩
    · have h3:inB x 0 1000000=false:=by simpa using h1
      have hC:C=3:=(by rw [HV.out,if_pos hc,if_neg (by simp [vwB,h3])]);subst hC;go_wp2_with fail;refine (isAt_any _ _).mono ?_;rintro e w2 ⟨rfl,rfl⟩;rw [h3];go_wp2_with fail;go_ret;exact ⟨rfl,HB1.out⟩
  · have hC:C=chF n R:=by rw [HV.out,if_neg hc]
    rw [←hC];rw [←hC] at hc;clear HV hC;have hc1:(C != 0)=true:=(by simp [hc]);go_wp2_with fail;go_ret;exact ⟨rfl,HB1.out⟩
def psn (R:Nat→Vr) (x o:Int):Nat→Nat→Nat
  | 0,i=>i
  | m+1,i=>if kd (R i) x o=0 then psn R x o m (i+1) else i
theorem psn_at {R:Nat→Vr} {x o:Int} {n k:Nat} (h:k<n):psn R x o (n-k) k=if kd (R k) x o=0 then psn R x o (n-(k+1)) (k+1) else k:=by
  obtain ⟨m,hm⟩:∃m,n-k=m+1:=⟨n-k-1,by omega⟩;rw [hm,psn,show n-(k+1)=m by omega]
theorem psn_le (R:Nat→Vr) (x o:Int):∀m i,psn R x o m i≤i+m∧(psn R x o m i<i+m→kd (R (psn R x o m i)) x o≠0)
  | 0,i=>⟨Nat.le_refl _,fun h=>absurd h (Nat.lt_irrefl _)⟩
  | m+1,i=>by
    rw [psn];split
    · have:=psn_le R x o m (i+1);exact ⟨by omega,fun h=>this.2 (by omega)⟩
    · rename_i h;exact ⟨by omega,fun _=>h⟩
def pS (n:Nat) (R:Nat→Vr) (x o:Int):Nat:=psn R x o n 0
theorem pS_le (n:Nat) (R:Nat→Vr) (x o:Int):pS n R x o≤n:=by have:=(psn_le R x o n 0).1;unfold pS;omega
def sS (n:Nat) (R:Nat→Vr) (x o:Int):Int:=if pS n R x o<n∧(R (pS n R x o)).g=false then (pS n R x o:Int) else -1
set_option maxHeartbeats 4000000 in
theorem placeSeen_any (n:Nat) (R:Nat→Vr) (a:Option Addr) (cap:Nat) (x o:Int) (w:World) (hn:n≤12) (h:VersAt w a n R) :
    Calls Tryz.prog 169 #[.slice a n cap,.agg #[.int .i64 x,.int .i64 o]] w fun e w'=>e=.returned (.int .i64 (pS n R x o:Int))∧Below w.heap.size w w':=by
  have HA:Hid (VersAt w a n R):=h;clear h;go_enter Tryz.func169,Tryz.ntmps169;go_wp2_with fail;go_loopw [5] (fun i wr=>∃k:Nat,k≤n∧i=.int .i64 k∧Hid (pS n R x o=psn R x o (n-k) k)∧Hid (Box2 wr w.heap.size (.int .i64 x) (.int .i64 o))∧Hid (Below w.heap.size w wr)) (fun i _=>n-(intOf i).toNat)
  case atStart=>exact ⟨0,Nat.zero_le _,rfl,rfl,Box2.new w _ _ 122,below_new _ _⟩
  case round=>
    obtain ⟨k,hk0,rfl,HE,HX,HB⟩:=hrel;obtain ⟨q0,q1⟩:=HX.out
    by_cases hlt:k<n
    · have HE2:Hid (pS n R x o=_):=HE.out.trans (psn_at hlt)
      obtain ⟨b,off,rfl,hl,hcc⟩:∃b off,a=some ⟨b,off,none⟩∧b<w.heap.size∧C4 wr b (off+k*4) (R k):=by
        rcases HA.out with h | ⟨b,off,ha,hl,hc⟩
        · omega
        · exact ⟨b,off,ha,hl,(hc k hlt).block (HB.out.block _ hl)⟩
      have hlt':(k:Int)<(n:Int):=(by omega);have hk1:(0:Int)≤(k:Int):=(by omega);obtain ⟨x0,x1,x2,x3⟩:=hcc;clear HE HA
      by_cases hk:kd (R k) x o=0
      · have HE:Hid (pS n R x o=psn R x o (n-(k+1)) (k+1)):=HE2.out.trans (if_pos hk);clear HE2;generalize R k=r at *;go_wp2_with fail;have hb0:Below wr.heap.size wr wr.drew:=(Below.refl _ _).drew
        go_region_held3 (fun w'=>Below wr.heap.size wr w'∧w'.cell? ⟨b,off+k*4,none⟩=some (.int .i64 r.t)∧w'.cell? ⟨b,off+k*4+1,none⟩=some (.int .i64 r.a)∧w'.cell? ⟨b,off+k*4+2,none⟩=some (.bool r.g)∧w'.cell? ⟨b,off+k*4+3,none⟩=some (.int .i64 r.v)∧w'.cell? ⟨w.heap.size,0,none⟩=some (.int .i64 x)∧w'.cell? ⟨w.heap.size,1,none⟩=some (.int .i64 o)) (go_keep)
          (first | (go_at_call 170;refine (kindIn_any r x o _).mono ?_;rintro e wq ⟨rfl,hbq⟩;rw [hk];have hU:=below_then (w:=wr) (by simp [*]) hbq;have hU0:=cell_below (B:=b) (o:=off+k*4) (v:=.int .i64 r.t) (by simp [*]) hbq;have hU1:=cell_below (B:=b) (o:=off+k*4+1) (v:=.int .i64 r.a) (by simp [*]) hbq;have hU2:=cell_below (B:=b) (o:=off+k*4+2) (v:=.bool r.g) (by simp [*]) hbq;have hU3:=cell_below (B:=b) (o:=off+k*4+3) (v:=.int .i64 r.v) (by simp [*]) hbq;have hU4:=cell_below (B:=w.heap.size) (o:=0) (v:=.int .i64 x) (by simp [*]) hbq;have hU5:=cell_below (B:=w.heap.size) (o:=1) (v:=.int .i64 o) (by simp [*]) hbq))
        go_wp2_with fail;go_roundw
        case rel=>exact ⟨k+1,hlt,by go_num,HE,HX.out.below (by assumption),below_then HB.out (by assumption)⟩
        case measure=>simp [intOf];omega
      · have HE:Hid (k=pS n R x o):=(HE2.out.trans (if_neg hk)).symm;clear HE2;generalize R k=r at *;generalize hk2:kd r x o=kk at *;have hk3:(kk == 0)=false:=(by simp [hk]);go_wp2_with fail;have hb0:Below wr.heap.size wr wr.drew:=(Below.refl _ _).drew
        go_region_held3 (fun w'=>Below wr.heap.size wr w'∧w'.cell? ⟨b,off+k*4,none⟩=some (.int .i64 r.t)∧w'.cell? ⟨b,off+k*4+1,none⟩=some (.int .i64 r.a)∧w'.cell? ⟨b,off+k*4+2,none⟩=some (.bool r.g)∧w'.cell? ⟨b,off+k*4+3,none⟩=some (.int .i64 r.v)∧w'.cell? ⟨w.heap.size,0,none⟩=some (.int .i64 x)∧w'.cell? ⟨w.heap.size,1,none⟩=some (.int .i64 o)) (go_keep)
          (first | (go_at_call 170;refine (kindIn_any r x o _).mono ?_;rintro e wq ⟨rfl,hbq⟩;rw [hk2];have hU:=below_then (w:=wr) (by simp [*]) hbq;have hU0:=cell_below (B:=b) (o:=off+k*4) (v:=.int .i64 r.t) (by simp [*]) hbq;have hU1:=cell_below (B:=b) (o:=off+k*4+1) (v:=.int .i64 r.a) (by simp [*]) hbq;have hU2:=cell_below (B:=b) (o:=off+k*4+2) (v:=.bool r.g) (by simp [*]) hbq;have hU3:=cell_below (B:=b) (o:=off+k*4+3) (v:=.int .i64 r.v) (by simp [*]) hbq;have hU4:=cell_below (B:=w.heap.size) (o:=0) (v:=.int .i64 x) (by simp [*]) hbq;have hU5:=cell_below (B:=w.heap.size) (o:=1) (v:=.int .i64 o) (by simp [*]) hbq))
        go_wp2_with fail;go_ret;exact ⟨ret_int (by rw [←HE.out]),below_then HB.out (by assumption)⟩
    · have hkn:n=k:=by omega
      have HE2:Hid (pS n R x o=k):=by
        refine HE.out.trans ?_;rw [show n-k=0 by omega,psn]
      have hnl:¬((k:Int)<(k:Int)):=(by omega);clear HE HA;subst hkn;go_wp2_with fail;refine wp_region_any (by kernel_rfl) ?_;change wpAny _ _ _ _ _ _ _ (World.drew _);refine wpAny_take (i:=0) (v:=.int .i64 (n:Int)) rfl (by kernel_rfl) (by kernel_rfl) (by kernel_rfl) (fun _ _ _ h=>h) (Or.inl ⟨by kernel_rfl,by intro w;go_simp⟩) ?_;refine wpAny_take (i:=1) (v:=.slice a n cap) rfl (by kernel_rfl) (by kernel_rfl) (by kernel_rfl) (fun _ _ _ h=>h) (Or.inl ⟨by kernel_rfl,by intro w;go_simp⟩) ?_;refine wpAny_take (i:=2) (v:=.int .i64 (n:Int)) rfl (by kernel_rfl) (by kernel_rfl) (by kernel_rfl) (fun _ _ _ h=>h) (Or.inl ⟨by kernel_rfl,by intro w;go_simp⟩) ?_;refine wpAny_take (i:=3) (v:=.bool false) rfl (by kernel_rfl) (by kernel_rfl) (by kernel_rfl) (fun _ _ _ h=>h) (Or.inl ⟨by kernel_rfl,by intro w;go_simp⟩) ?_;refine wpAny_take (i:=4) (v:=.bool false) rfl (by kernel_rfl) (by kernel_rfl) (by kernel_rfl) (fun _ _ _ h=>h) (Or.inl ⟨by kernel_rfl,by intro w;go_simp⟩) ?_;refine any_skip 5 (some 11) (by kernel_rfl) (by kernel_rfl) (by kernel_rfl) (by kernel_rfl) (by kernel_rfl) (fun _ _ _ h=>h) ?_;refine any_skip 6 (some 12) (by kernel_rfl) (by kernel_rfl) (by kernel_rfl) (by kernel_rfl) (by kernel_rfl) (fun _ _ _ h=>h) ?_;refine any_skip 7 (some 13) (by kernel_rfl) (by kernel_rfl) (by kernel_rfl) (by kernel_rfl) (by kernel_rfl) (fun _ _ _ h=>h) ?_;refine any_skip 8 (some 14) (by kernel_rfl) (by kernel_rfl) (by kernel_rfl) (by kernel_rfl) (by kernel_rfl) (fun _ _ _ h=>h) ?_;refine any_skip 9 (some 15) (by kernel_rfl) (by kernel_rfl) (by kernel_rfl) (by kernel_rfl) (by kernel_rfl) (fun _ _ _ h=>h) ?_;refine any_skip 10 (some 16) (by kernel_rfl) (by kernel_rfl) (by kernel_rfl) (by kernel_rfl) (by kernel_rfl) (fun _ _ _ h=>h) ?_;refine any_skip 11 (some 17) (by kernel_rfl) (by kernel_rfl) (by kernel_rfl) (by kernel_rfl) (by kernel_rfl) (fun _ _ _ h=>h) ?_;refine wpAny_take (i:=12) (v:=.bool false) rfl (by kernel_rfl) (by kernel_rfl) (by kernel_rfl) (fun _ _ _ h=>h) (Or.inl ⟨by kernel_rfl,by intro w;go_simp⟩) ?_;refine wpAny_done (by kernel_rfl) ?_ _;go_simp;go_wp2_with fail;go_ret;exact ⟨ret_int (by rw [HE2.out]),HB.out.drew⟩
set_option maxHeartbeats 4000000 in
theorem l5Seen_any (n:Nat) (R:Nat→Vr) (a:Option Addr) (cap:Nat) (x o:Int) (w:World) (hn:n≤12) (h:VersAt w a n R) :
    Calls Tryz.prog 129 #[.slice a n cap,.agg #[.int .i64 x,.int .i64 o]] w fun e w'=>e=.returned (.int .i64 (sS n R x o))∧Below w.heap.size w w':=by
  have HA:Hid (VersAt w a n R):=h;clear h;go_enter Tryz.func129,Tryz.ntmps129;go_wp2_with fail;go_loopw [5,6] (fun i _ wr=>∃k:Nat,k≤n∧i=.int .i64 k∧Hid (pS n R x o=psn R x o (n-k) k)∧Hid (Box2 wr w.heap.size (.int .i64 x) (.int .i64 o))∧Hid (Below w.heap.size w wr)) (fun i _ _=>n-(intOf i).toNat)
  case atStart=>exact ⟨0,Nat.zero_le _,rfl,rfl,Box2.new w _ _ 122,below_new _ _⟩
  case round=>
    obtain ⟨k,hk0,rfl,HE,HX,HB⟩:=hrel;obtain ⟨q0,q1⟩:=HX.out;have hsw:w.heap.size<wr.heap.size:=Go.block_lt_of_cell q0;have hne:¬w.heap.size=wr.heap.size:=(by omega)
    by_cases hlt:k<n
    · have HE2:Hid (pS n R x o=_):=HE.out.trans (psn_at hlt)
      obtain ⟨b,off,rfl,hl,hcc⟩:∃b off,a=some ⟨b,off,none⟩∧b<w.heap.size∧C4 wr b (off+k*4) (R k):=by
        rcases HA.out with h | ⟨b,off,ha,hl,hc⟩
        · omega
        · exact ⟨b,off,ha,hl,(hc k hlt).block (HB.out.block _ hl)⟩
      have hlt':(k:Int)<(n:Int):=(by omega);have hk1:(0:Int)≤(k:Int):=(by omega);have p0:=fun ob:Obj=>cell_alloc q0 ob;have p1:=fun ob:Obj=>cell_alloc q1 ob;clear HE HA
      by_cases hk:kd (R k) x o=0
      · have HE:Hid (pS n R x o=psn R x o (n-(k+1)) (k+1)):=HE2.out.trans (if_pos hk);clear HE2;obtain ⟨x0,x1,x2,x3⟩:=hcc;generalize R k=r at *;obtain ⟨t,ra,g,v⟩:=r;simp only at x0 x1 x2 x3
        have hk2:¬((ra≠0∧ra≤x)∨(t=o∧ra=0)):=by
          intro hh;simp only [kd] at hk;rw [if_pos hh] at hk
          cases g <;> simp at hk
        clear hk
        by_cases hz:ra=0
        · subst hz;have ht:(t == o)=false:=(by simp;exact fun e=>hk2 (.inr ⟨e,rfl⟩));clear hk2;go_wp2_with fail;go_roundw
          case rel=>exact ⟨k+1,hlt,by go_num,HE,HX.out.below (below_new _ _),below_then HB.out (below_new _ _)⟩
          case measure=>simp [intOf];omega
        · have hz1:(ra == 0)=false:=by simp [hz]
          have hz2:(ra != 0)=true:=(by simp [hz]);have ha:decide (ra≤x)=false:=(by simp;exact Int.not_le.1 fun e=>hk2 (.inl ⟨hz,e⟩));clear hk2;go_wp2_with fail;go_roundw
          case rel=>exact ⟨k+1,hlt,by go_num,HE,HX.out.below (below_new _ _),below_then HB.out (below_new _ _)⟩
          case measure=>simp [intOf];omega
      · have hE:pS n R x o=k:=HE2.out.trans (if_neg hk)
        have HV:Hid (sS n R x o=if (R k).g=false then (k:Int) else -1):=by
          show sS n R x o=_;unfold sS;rw [hE];simp only [hlt,true_and]
        clear HE2 hE;obtain ⟨x0,x1,x2,x3⟩:=hcc;generalize R k=r at *;obtain ⟨t,ra,g,v⟩:=r;simp only at x0 x1 x2 x3
        have hk2:(ra≠0∧ra≤x)∨(t=o∧ra=0):=by
          apply Classical.byContradiction;intro hh;exact hk (if_neg hh)
        clear hk;cases g
        · have HC:Hid (sS n R x o=k):=HV.out.trans (if_pos rfl);clear HV
          rcases hk2 with ⟨hz,ha⟩ | ⟨ht,hz⟩
          · have hz1:(ra == 0)=false:=by simp [hz]
            have hz2:(ra != 0)=true:=(by simp [hz]);go_wp2_with fail;go_ret;exact ⟨ret_int HC.out.symm,below_then HB.out (below_new _ _)⟩
          · subst ht hz;go_wp2_with fail;go_ret;exact ⟨ret_int HC.out.symm,below_then HB.out (below_new _ _)⟩
        · have HC:Hid (sS n R x o=-1):=HV.out.trans (if_neg (by simp));clear HV
          rcases hk2 with ⟨hz,ha⟩ | ⟨ht,hz⟩
          · have hz1:(ra == 0)=false:=by simp [hz]
            have hz2:(ra != 0)=true:=(by simp [hz]);go_wp2_with fail;go_ret;exact ⟨ret_int HC.out.symm,below_then HB.out (below_new _ _)⟩
          · subst ht hz;go_wp2_with fail;go_ret;exact ⟨ret_int HC.out.symm,below_then HB.out (below_new _ _)⟩
    · have HV:Hid (sS n R x o=-1):=by
        show sS n R x o=-1;unfold sS
        have:pS n R x o=k:=by
          refine HE.out.trans ?_;rw [show n-k=0 by omega,psn]
        exact if_neg (by omega)
      have hnl:¬((k:Int)<(n:Int)):=(by omega);clear HE HA;go_wp2_with fail;go_ret;exact ⟨ret_int HV.out.symm,HB.out⟩
end Go.Proofs.YtjdodbiphijjgaaGreat
