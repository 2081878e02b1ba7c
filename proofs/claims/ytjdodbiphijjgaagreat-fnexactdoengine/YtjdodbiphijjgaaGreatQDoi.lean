import Derived.Test.YtjdodbiphijjgaaGreatQDoh
namespace Go.Proofs.YtjdodbiphijjgaaGreat
open Go.RowKit Go.Deep Go.Shelf
set_option linter.unusedVariables false
set_option linter.unusedSimpArgs false
set_option maxRecDepth 20000
theorem doOne (f:FuncId) (G E:En) (r:Dk) (a:Option Addr) (cap:Nat) (a':Option Addr) (cap':Nat) (w:World) (hs:SmallE E) (h:EngAt w a a' E) (h0:eF E=0) (hk:inB r.k 1 7=true)
    (HA:∀w,Calls Tryz.prog 80 #[.int .i64 r.k] w fun e w'=>e=.returned (.func (.func f) #[] #[])∧w'=w.alloc actsO) (hG:dnG E r=G) (hcf:∀(args:Array Value) (u:World),Sem.run Tryz.prog (callFunc f args) u=.ok (.enter f args) u)
    (HB:∀a cap a' cap' w,EngAt w a a' E→Calls Tryz.prog f #[.agg #[.int .i64 E.nx,.int .i64 E.ck,.slice a E.p cap,.slice a' E.q cap'],.agg #[.int .i64 r.k,.int .i64 r.t,.int .i64 r.y,.int .i64 r.o]] w (DnX E a a' (dnC E r) (dnW E r) (dnL E r) G w)) :
    Calls Tryz.prog 22 #[.agg #[.int .i64 E.nx,.int .i64 E.ck,.slice a E.p cap,.slice a' E.q cap'],.agg #[.int .i64 r.k,.int .i64 r.t,.int .i64 r.y,.int .i64 r.o]] w (DoR 0 (dnC E r) (dnW E r) (dnL E r) (dnE E r) w):=
  doAct f (dnC E r) (dnW E r) (dnL E r) G E r a cap a' cap' w hs h h0 (dnE E r) (by unfold dnE;rw [hG]) (eF_dn h0 r) hk hcf HA HB
theorem dn1 {E:En} {r:Dk} (hk:r.k=1):dnC E r=btC E∧dnW E r=btV E∧dnL E r=[]∧dnG E r=btE E:=by
  refine ⟨by simp [dnC,hk],?_,by simp [dnL,hk],by simp [dnG,hk]⟩;have e:dnC E r=btC E:=(by simp [dnC,hk]);unfold dnW;rw [if_neg (by omega),e];split
  · simp [dnV,hk]
  · rename_i h;unfold btV;rw [if_neg h]
theorem dn2 {E:En} {r:Dk} (hk:r.k=2):dnC E r=rkC E r.t r.y∧dnW E r=rkV E r.t r.y∧dnL E r=[]∧dnG E r=E:=by
  refine ⟨by simp [dnC,hk],by simp [dnW,hk],by simp [dnL,hk],by simp [dnG,hk]⟩
theorem dn3 {E:En} {r:Dk} (hk:r.k=3):dnC E r=askC E r.t∧dnW E r=0∧dnL E r=(if askC E r.t=0 then skQ E r.t 0 31 else [])∧dnG E r=E:=by
  refine ⟨by simp [dnC,hk],by simp [dnW,dnV,hk],by simp [dnL,hk],by simp [dnG,hk]⟩
theorem dn4 {E:En} {r:Dk} (hk:r.k=4):dnC E r=wcC E r.t r.y r.o false∧dnW E r=0∧dnL E r=[]∧dnG E r=wcE E r.t r.y r.o false:=by
  refine ⟨by simp [dnC,hk],by simp [dnW,dnV,hk],by simp [dnL,hk],by simp [dnG,hk]⟩
theorem dn5 {E:En} {r:Dk} (hk:r.k=5):dnC E r=wcC E r.t r.y 0 true∧dnW E r=0∧dnL E r=[]∧dnG E r=wcE E r.t r.y 0 true:=by
  refine ⟨by simp [dnC,hk],by simp [dnW,dnV,hk],by simp [dnL,hk],by simp [dnG,hk]⟩
theorem dn6 {E:En} {r:Dk} (hk:r.k=6):dnC E r=ctC E r.t∧dnW E r=ctV E r.t∧dnL E r=[]∧dnG E r=ctE E r.t:=by
  refine ⟨by simp [dnC,hk],?_,by simp [dnL,hk],by simp [dnG,hk]⟩;have e:dnC E r=ctC E r.t:=(by simp [dnC,hk]);unfold dnW;rw [if_neg (by omega),e];split
  · simp [dnV,hk]
  · rename_i h;unfold ctV;rw [if_neg h]
theorem dn7 {E:En} {r:Dk} (hk:r.k=7):dnC E r=askC E r.t∧dnW E r=0∧dnL E r=[]∧dnG E r=abE E r.t:=by
  refine ⟨by simp [dnC,hk],by simp [dnW,dnV,hk],by simp [dnL,hk],by simp [dnG,hk]⟩
theorem doKinds (E:En) (r:Dk) (a:Option Addr) (cap:Nat) (a':Option Addr) (cap':Nat) (w:World) (hs:SmallE E) (h:EngAt w a a' E) (h0:eF E=0) (hk:inB r.k 1 7=true) :
    Calls Tryz.prog 22 #[.agg #[.int .i64 E.nx,.int .i64 E.ck,.slice a E.p cap,.slice a' E.q cap'],.agg #[.int .i64 r.k,.int .i64 r.t,.int .i64 r.y,.int .i64 r.o]] w (DoR 0 (dnC E r) (dnW E r) (dnL E r) (dnE E r) w):=by
  have hr:r.k=1∨r.k=2∨r.k=3∨r.k=4∨r.k=5∨r.k=6∨r.k=7:=by
    unfold inB at hk;simp at hk;omega
  rcases hr with e | e | e | e | e | e | e
  · obtain ⟨k1,k2,k3,k4⟩:=dn1 (E:=E) e;exact doOne _ _ E r a cap a' cap' w hs h h0 hk (fun w=>by rw [e];exact actOf1 w) k4 (fun _ _=>by kernel_rfl) (fun a cap a' cap' w h=>by rw [k1,k2,k3];exact act_bt E r a cap a' cap' w hs h)
  · obtain ⟨k1,k2,k3,k4⟩:=dn2 (E:=E) e;exact doOne _ _ E r a cap a' cap' w hs h h0 hk (fun w=>by rw [e];exact actOf2 w) k4 (fun _ _=>by kernel_rfl) (fun a cap a' cap' w h=>by rw [k1,k2,k3];exact act_rk E r a cap a' cap' w hs h)
  · obtain ⟨k1,k2,k3,k4⟩:=dn3 (E:=E) e;exact doOne _ _ E r a cap a' cap' w hs h h0 hk (fun w=>by rw [e];exact actOf3 w) k4 (fun _ _=>by kernel_rfl) (fun a cap a' cap' w h=>by rw [k1,k2,k3];exact act_sk E r a cap a' cap' w hs h)
  · obtain ⟨k1,k2,k3,k4⟩:=dn4 (E:=E) e;exact doOne _ _ E r a cap a' cap' w hs h h0 hk (fun w=>by rw [e];exact actOf4 w) k4 (fun _ _=>by kernel_rfl) (fun a cap a' cap' w h=>by rw [k1,k2,k3];exact act_pk E r a cap a' cap' w hs h)
  · obtain ⟨k1,k2,k3,k4⟩:=dn5 (E:=E) e;exact doOne _ _ E r a cap a' cap' w hs h h0 hk (fun w=>by rw [e];exact actOf5 w) k4 (fun _ _=>by kernel_rfl) (fun a cap a' cap' w h=>by rw [k1,k2,k3];exact act_dk E r a cap a' cap' w hs h)
  · obtain ⟨k1,k2,k3,k4⟩:=dn6 (E:=E) e;exact doOne _ _ E r a cap a' cap' w hs h h0 hk (fun w=>by rw [e];exact actOf6 w) k4 (fun _ _=>by kernel_rfl) (fun a cap a' cap' w h=>by rw [k1,k2,k3];exact act_ct E r a cap a' cap' w hs h)
  · obtain ⟨k1,k2,k3,k4⟩:=dn7 (E:=E) e;exact doOne _ _ E r a cap a' cap' w hs h h0 hk (fun w=>by rw [e];exact actOf7 w) k4 (fun _ _=>by kernel_rfl) (fun a cap a' cap' w h=>by rw [k1,k2,k3];exact act_ab E r a cap a' cap' w hs h)
theorem dr_small (E:En) (r:Dk):SmallE (drE E r):=by
  unfold drE;split
  · rename_i h
    have h0:eF E=0:=Decidable.byContradiction fun h1=>by rw [do_fault h1] at h;exact h1 h
    have hf:=eF_few (eF_dn h0 r);exact small_fewW hf.1 (by omega) hf.2.2.1 (fun i hi=>by have:=hf.2.2.2 i hi;omega)
  · exact zEn_smallW
theorem dr_len (E:En) (r:Dk):(drL E r).length≤500000:=by
  unfold drL;split
  · unfold dnL;split
    · rename_i h;have h1:=scL_len E.q E.R (E.T (askP E r.t).toNat).am (E.T (askP E r.t).toNat).id 0 31 E.q;have h2:=(eF_pq (ask_open h.2).1).2;unfold skQ;omega
    · simp
  · simp
set_option maxHeartbeats 16000000 in
theorem implDo_any (E:En) (r:Dk) (a:Option Addr) (cap:Nat) (a':Option Addr) (cap':Nat) (w:World) (hs:SmallE E) (h:EngAt w a a' E) :
    Calls Tryz.prog 22 #[.agg #[.int .i64 E.nx,.int .i64 E.ck,.slice a E.p cap,.slice a' E.q cap'],.agg #[.int .i64 r.k,.int .i64 r.t,.int .i64 r.y,.int .i64 r.o]] w (DoR (doC E r) (drC E r) (drV E r) (drL E r) (drE E r) w):=by
  by_cases h0:eF E=0
  · by_cases hk:inB r.k 1 7=true
    · obtain ⟨k1,k2,k3,k4⟩:=dr_ok (do_ok h0 hk);rw [do_ok h0 hk,k1,k2,k3,k4];exact doKinds E r a cap a' cap' w hs h h0 hk
    · have hk2:inB r.k 1 7=false:=by simpa using hk
      have hc:=do_kind h0 hk2;obtain ⟨k1,k2,k3,k4⟩:=dr_bad hc (by decide);rw [hc,k1,k2,k3,k4];clear hc k1 k2 k3 k4 hk;have HX:Hid (EngAt w a a' E):=h;have HS:Hid (SmallE E):=hs;have HB1:Hid (BxD w _ E r (.slice a E.p cap) (.slice a' E.q cap')):=BxD.start w E r (.slice a E.p cap) (.slice a' E.q cap') 30 50 48;have H0:Hid (eF E=0):=h0;have HK:Hid (inB r.k 1 7=false):=hk2;clear h hs h0 hk2;go_enter Tryz.func22,Tryz.ntmps22;go_wp2_with fail;refine (implEf_any E a cap a' cap' _ HS.out (HX.out.below HB1.out.below)).mono ?_;rintro e W ⟨rfl,hb1⟩;have HB:Hid (BxD w W E r (.slice a E.p cap) (.slice a' E.q cap')):=HB1.out.mono hb1;clear hb1 HB1;rw [H0.out];obtain ⟨a0,a1,a2,a3⟩:=HB.out.a;go_wp2_with fail;refine (isActK9_any r.k _).mono ?_;rintro e w2 ⟨rfl,hw2⟩;obtain rfl:=hw2.symm;rw [HK.out];obtain ⟨⟨r0,r1,r2,r3⟩,r4,r5,r6,r7⟩:=HB.out.r;have rf:=HB.out.rf;have hsz:=HB.out.hsz;have HF:Hid (∀w7,Below w.heap.size w w7→DoR 3 0 0 [] zEn w (.returned (.agg #[.int .i64 3,.int .i64 0,.int .i64 0,.slice none 0 0,.int .i64 0,.int .i64 0,.slice none 0 0,.slice none 0 0])) w7):=fun w7 hb=>dor_bad hb;clear a0 a1 a2 a3;go_wp2_with fail;refine bodyPost_ret (v:=.agg #[.int .i64 3,.int .i64 0,.int .i64 0,.slice none 0 0,.int .i64 0,.int .i64 0,.slice none 0 0,.slice none 0 0]) (by simp [results,Tryz.results22,go_sem, *]) rfl ?_;refine HF.out _ ?_
      repeat (first | with_reducible exact HB.out.below | with_reducible refine Below.setCell ?_ (by first | omega | (simp <;> omega)) _)
  · have hc:=do_fault (r:=r) h0;obtain ⟨k1,k2,k3,k4⟩:=dr_bad hc h0;rw [hc,k1,k2,k3,k4];clear hc k1 k2 k3 k4;have HX:Hid (EngAt w a a' E):=h;have HS:Hid (SmallE E):=hs;have HB1:Hid (BxD w _ E r (.slice a E.p cap) (.slice a' E.q cap')):=BxD.start w E r (.slice a E.p cap) (.slice a' E.q cap') 30 50 48;have hc2:(eF E != 0)=true:=(by simp [h0]);clear h hs h0;go_enter Tryz.func22,Tryz.ntmps22;go_wp2_with fail;refine (implEf_any E a cap a' cap' _ HS.out (HX.out.below HB1.out.below)).mono ?_;rintro e W ⟨rfl,hb1⟩;have HB:Hid (BxD w W E r (.slice a E.p cap) (.slice a' E.q cap')):=HB1.out.mono hb1;clear hb1 HB1;obtain ⟨⟨r0,r1,r2,r3⟩,r4,r5,r6,r7⟩:=HB.out.r;have rf:=HB.out.rf;have hsz:=HB.out.hsz;have HF:Hid (∀w7,Below w.heap.size w w7→DoR (eF E) 0 0 [] zEn w (.returned (.agg #[.int .i64 (eF E),.int .i64 0,.int .i64 0,.slice none 0 0,.int .i64 0,.int .i64 0,.slice none 0 0,.slice none 0 0])) w7):=fun w7 hb=>dor_bad hb;generalize eF E=uu at *;go_wp2_with fail;refine bodyPost_ret (v:=.agg #[.int .i64 uu,.int .i64 0,.int .i64 0,.slice none 0 0,.int .i64 0,.int .i64 0,.slice none 0 0,.slice none 0 0]) (by simp [results,Tryz.results22,go_sem, *]) rfl ?_;refine HF.out _ ?_
    repeat (first | with_reducible exact HB.out.below | with_reducible refine Below.setCell ?_ (by first | omega | (simp <;> omega)) _)
end Go.Proofs.YtjdodbiphijjgaaGreat
