import Derived.Test.YtjdodbiphijjgaaGreatJDoa
namespace Go.Proofs.YtjdodbiphijjgaaGreat
open Go.RowKit Go.Deep
set_option linter.unusedVariables false
set_option maxRecDepth 20000
theorem inB_at {a:Int} (h:a≠0):inB a 1 1000000=inB a 0 1000000:=by
  unfold inB
  by_cases h1:1≤a
  · have h2:0≤a:=by omega
    simp [h1,h2]
  · have h2:¬0≤a:=by omega
    simp [h1,h2]
theorem inB_zero:inB 0 0 1000000=true:=by decide
set_option maxHeartbeats 8000000 in
theorem specChf_some (n:Nat) (R:Nat→Vr) (b off cap:Nat) (w:World) (hn:n≤12) (hbl:b<w.heap.size) (hc:∀i,i<n→C4 w b (off+i*4) (R i)) :
    Calls Tryz.prog 188 #[.slice (some ⟨b,off,none⟩) n cap] w fun e w'=>e=.returned (.int .i64 (chf R n 0))∧Below w.heap.size w w':=by
  have HC:Hid (∀i,i<n→C4 w b (off+i*4) (R i)):=hc;have hn':¬((12:Int)<(n:Int)):=(by omega);clear hc;go_enter Tryz.func188,Tryz.ntmps188;go_wp2_with fail;go_loopw [3,4] (fun i _ wr=>∃k:Nat,k≤n∧i=.int .i64 k∧Hid (chf R n 0=chf R (n-k) k)∧Hid (Below w.heap.size w wr)) (fun i _ _=>n-(intOf i).toNat)
  case atStart=>exact ⟨0,Nat.zero_le _,rfl,rfl,Below.refl _ _⟩
  case round=>
    obtain ⟨k,hk0,rfl,HE,HB⟩:=hrel
    by_cases hlt:k<n
    · have hX:=(HC.out k hlt).block (HB.out.block _ hbl);have hbw:b<wr.heap.size:=Nat.lt_of_lt_of_le hbl HB.out.size;have hbne:¬b=wr.heap.size:=(by omega);have hlt':(k:Int)<(n:Int):=(by omega);have hk1:(0:Int)≤(k:Int):=(by omega);have HA:Hid (chf R n 0=_):=HE.out.trans (chf_at hlt);clear HE
      by_cases hr:vR (R k)=false
      · have HE:Hid (chf R n 0=3):=HA.out.trans (if_pos hr);clear HA;obtain ⟨x0,x1,x2,x3⟩:=hX;generalize R k=r at *;obtain ⟨t,a,g,v⟩:=r;unfold vR at hr
        by_cases h1:inB t 1 999=true
        · by_cases hz:a=0
          · subst hz;have h3:inB v 0 9999=false:=(by simpa [h1,inB_zero] using hr);clear hr;go_wp2_with (first | (go_at_call 130;refine (l5Txn_any _ _).mono ?_;rintro e w' ⟨rfl,rfl⟩) | (go_at_call 222;refine (l5At_any _ _).mono ?_;rintro e w' ⟨rfl,rfl⟩) | (go_at_call 62;refine (l1Value_any _ _).mono ?_;rintro e w' ⟨rfl,rfl⟩));go_ret;exact ⟨ret_int HE.out.symm,below_then HB.out (below_new _ _)⟩
          · have hz':(a != 0)=true:=by simp [hz]
            by_cases h2:inB a 0 1000000=true
            · have h3:inB v 0 9999=false:=by simpa [h1,h2] using hr
              have h4:inB a 1 1000000=true:=(inB_at hz).trans h2;clear hr h2;go_wp2_with (first | (go_at_call 130;refine (l5Txn_any _ _).mono ?_;rintro e w' ⟨rfl,rfl⟩) | (go_at_call 222;refine (l5At_any _ _).mono ?_;rintro e w' ⟨rfl,rfl⟩) | (go_at_call 62;refine (l1Value_any _ _).mono ?_;rintro e w' ⟨rfl,rfl⟩));go_ret;exact ⟨ret_int HE.out.symm,below_then HB.out (below_new _ _)⟩
            · have h4:inB a 1 1000000=false:=(inB_at hz).trans (by simpa using h2);clear hr h2;go_wp2_with (first | (go_at_call 130;refine (l5Txn_any _ _).mono ?_;rintro e w' ⟨rfl,rfl⟩) | (go_at_call 222;refine (l5At_any _ _).mono ?_;rintro e w' ⟨rfl,rfl⟩));go_ret;exact ⟨ret_int HE.out.symm,below_then HB.out (below_new _ _)⟩
        · have h4:inB t 1 999=false:=by simpa using h1
          clear hr h1;go_wp2_with (go_at_call 130;refine (l5Txn_any _ _).mono ?_;rintro e w' ⟨rfl,rfl⟩);go_ret;exact ⟨ret_int HE.out.symm,below_then HB.out (below_new _ _)⟩
      · have hr':vR (R k)=true:=by simpa using hr
        have ⟨⟨h1,h2⟩,h3⟩:(inB (R k).t 1 999=true∧inB (R k).a 0 1000000=true)∧inB (R k).v 0 9999=true:=(by simpa [vR] using hr');have HA2:Hid (chf R n 0=_):=HA.out.trans (if_neg hr);clear HA hr hr';cases hg:(R k).g
        · have hq:True:=trivial
          by_cases hz:(R k).a=0
          · rcases Nat.eq_zero_or_pos k with hk9 | hpos
            · have hd:decide (0<k)=false:=by simp;omega
              have hk8:¬0<k:=(by omega);have HE:Hid (chf R n 0=chf R (n-(k+1)) (k+1)):=HA2.out.trans (if_neg (by simp [vF,older,hg,hk8]));clear HA2;clear hk9 hk8;generalize R k=r at *;obtain ⟨t,a,g,v⟩:=r;obtain ⟨x0,x1,x2,x3⟩:=hX;simp only at x0 x1 x2 x3 h1 h2 h3 hz hg;subst hg;subst hz;clear h2;go_wp2_with (first | (go_at_call 130;refine (l5Txn_any _ _).mono ?_;rintro e w' ⟨rfl,rfl⟩) | (go_at_call 222;refine (l5At_any _ _).mono ?_;rintro e w' ⟨rfl,rfl⟩) | (go_at_call 62;refine (l1Value_any _ _).mono ?_;rintro e w' ⟨rfl,rfl⟩));go_quiet (fail);go_wp2_with fail;go_roundw
              case rel=>exact ⟨k+1,hlt,by go_num,HE,by have hs:=HB.out.size;repeat (first | exact HB.out | apply Below.drew | refine below_drewN ?_ _ | refine Below.alloc ?_ (by first | omega | (simp;omega)) _)⟩
              case measure=>simp [intOf];omega
            · have hd:decide (0<k)=true:=by simp;omega
              have HE:Hid (chf R n 0=1):=HA2.out.trans (if_pos (by simp [vF,older,hg,hz,hpos]));clear HA2;generalize R k=r at *;obtain ⟨t,a,g,v⟩:=r;obtain ⟨x0,x1,x2,x3⟩:=hX;simp only at x0 x1 x2 x3 h1 h2 h3 hz hg;subst hg;subst hz;clear h2;go_wp2_with (first | (go_at_call 130;refine (l5Txn_any _ _).mono ?_;rintro e w' ⟨rfl,rfl⟩) | (go_at_call 222;refine (l5At_any _ _).mono ?_;rintro e w' ⟨rfl,rfl⟩) | (go_at_call 62;refine (l1Value_any _ _).mono ?_;rintro e w' ⟨rfl,rfl⟩));go_quiet (fail);go_wp2_with fail;go_ret;exact ⟨ret_int HE.out.symm,by have hs:=HB.out.size;repeat (first | exact HB.out | apply Below.drew | refine below_drewN ?_ _ | refine Below.alloc ?_ (by first | omega | (simp;omega)) _)⟩
          · rcases Nat.eq_zero_or_pos k with hk9 | hpos
            · have hd:decide (0<k)=false:=by simp;omega
              have hk8:¬0<k:=(by omega);have HE:Hid (chf R n 0=chf R (n-(k+1)) (k+1)):=HA2.out.trans (if_neg (by simp [vF,older,hg,hk8]));clear HA2;clear hk9 hk8;generalize R k=r at *;obtain ⟨t,a,g,v⟩:=r;obtain ⟨x0,x1,x2,x3⟩:=hX;simp only at x0 x1 x2 x3 h1 h2 h3 hz hg;subst hg;have hz':(a != 0)=true:=(by simp [hz]);have hz2:(a == 0)=false:=(by simp [hz]);have h4:inB a 1 1000000=true:=(inB_at hz).trans h2;clear h2;go_wp2_with (first | (go_at_call 130;refine (l5Txn_any _ _).mono ?_;rintro e w' ⟨rfl,rfl⟩) | (go_at_call 222;refine (l5At_any _ _).mono ?_;rintro e w' ⟨rfl,rfl⟩) | (go_at_call 62;refine (l1Value_any _ _).mono ?_;rintro e w' ⟨rfl,rfl⟩));go_quiet (fail);go_wp2_with fail;go_roundw
              case rel=>exact ⟨k+1,hlt,by go_num,HE,by have hs:=HB.out.size;repeat (first | exact HB.out | apply Below.drew | refine below_drewN ?_ _ | refine Below.alloc ?_ (by first | omega | (simp;omega)) _)⟩
              case measure=>simp [intOf];omega
            · obtain ⟨j,rfl⟩:∃j,k=j+1:=⟨k-1,by omega⟩;have hP:=(HC.out j (by omega)).block (HB.out.block _ hbl);have hj1:(j:Int)<(n:Int):=(by omega);have hj2:(0:Int)≤(j:Int):=(by omega);have hj3:(0:Int)<(j:Int)+1:=(by omega);have hwj:IntKind.i64.wrap (j:Int)=(j:Int):=(by rw [IntKind.wrap_i64];omega);have hPB:∀o:Obj,C4 (wr.alloc o) b (off+j*4) (R j):=fun o=>hP.below (below_new _ _);clear hP hpos
              by_cases hp:(R j).a=0
              · have hq:True:=trivial;have HE:Hid (chf R n 0=chf R (n-(j+1+1)) (j+1+1)):=HA2.out.trans (if_neg (by simp [vF,older,hg,hz,hp]));clear HA2;generalize R (j+1)=r at *;obtain ⟨t,a,g,v⟩:=r;generalize R j=p at *;obtain ⟨pt,pa,pg,pv⟩:=p;obtain ⟨x0,x1,x2,x3⟩:=hX;simp only at x0 x1 x2 x3 h1 h2 h3 hz hp hg;have y1:=fun o=>(hPB o).2.1;simp only at y1;clear hPB;subst hp;subst hg;have hz':(a != 0)=true:=(by simp [hz]);have hz2:(a == 0)=false:=(by simp [hz]);have h4:inB a 1 1000000=true:=(inB_at hz).trans h2;clear h2;go_wp2_with (first | (go_at_call 130;refine (l5Txn_any _ _).mono ?_;rintro e w' ⟨rfl,rfl⟩) | (go_at_call 222;refine (l5At_any _ _).mono ?_;rintro e w' ⟨rfl,rfl⟩) | (go_at_call 62;refine (l1Value_any _ _).mono ?_;rintro e w' ⟨rfl,rfl⟩));go_quiet (fail);go_wp2_with fail;go_roundw
                case rel=>exact ⟨j+1+1,hlt,by go_num,HE,by have hs:=HB.out.size;repeat (first | exact HB.out | apply Below.drew | refine below_drewN ?_ _ | refine Below.alloc ?_ (by first | omega | (simp;omega)) _)⟩
                case measure=>simp [intOf];omega
              · by_cases ha:(R (j+1)).a<(R j).a
                · have hq:True:=trivial;have HE:Hid (chf R n 0=chf R (n-(j+1+1)) (j+1+1)):=HA2.out.trans (if_neg (by simp [vF,older,hg,hz,ha]));clear HA2;generalize R (j+1)=r at *;obtain ⟨t,a,g,v⟩:=r;generalize R j=p at *;obtain ⟨pt,pa,pg,pv⟩:=p;obtain ⟨x0,x1,x2,x3⟩:=hX;simp only at x0 x1 x2 x3 h1 h2 h3 hz hp hg;have y1:=fun o=>(hPB o).2.1;simp only at y1;clear hPB;have hp':(pa != 0)=true:=(by simp [hp]);simp only at ha;have ha':decide (pa≤a)=false:=(by simp;omega);subst hg;have hz':(a != 0)=true:=(by simp [hz]);have hz2:(a == 0)=false:=(by simp [hz]);have h4:inB a 1 1000000=true:=(inB_at hz).trans h2;clear h2;go_wp2_with (first | (go_at_call 130;refine (l5Txn_any _ _).mono ?_;rintro e w' ⟨rfl,rfl⟩) | (go_at_call 222;refine (l5At_any _ _).mono ?_;rintro e w' ⟨rfl,rfl⟩) | (go_at_call 62;refine (l1Value_any _ _).mono ?_;rintro e w' ⟨rfl,rfl⟩));go_quiet (fail);go_wp2_with fail;go_roundw
                  case rel=>exact ⟨j+1+1,hlt,by go_num,HE,by have hs:=HB.out.size;repeat (first | exact HB.out | apply Below.drew | refine below_drewN ?_ _ | refine Below.alloc ?_ (by first | omega | (simp;omega)) _)⟩
                  case measure=>simp [intOf];omega
                · have hq:True:=trivial;have HE:Hid (chf R n 0=1):=HA2.out.trans (if_pos (by simp [vF,older,hg,hz,hp,ha]));clear HA2;generalize R (j+1)=r at *;obtain ⟨t,a,g,v⟩:=r;generalize R j=p at *;obtain ⟨pt,pa,pg,pv⟩:=p;obtain ⟨x0,x1,x2,x3⟩:=hX;simp only at x0 x1 x2 x3 h1 h2 h3 hz hp hg;have y1:=fun o=>(hPB o).2.1;simp only at y1;clear hPB;have hp':(pa != 0)=true:=(by simp [hp]);simp only at ha;have ha':decide (pa≤a)=true:=(by simp;omega);subst hg;have hz':(a != 0)=true:=(by simp [hz]);have hz2:(a == 0)=false:=(by simp [hz]);have h4:inB a 1 1000000=true:=(inB_at hz).trans h2;clear h2;go_wp2_with (first | (go_at_call 130;refine (l5Txn_any _ _).mono ?_;rintro e w' ⟨rfl,rfl⟩) | (go_at_call 222;refine (l5At_any _ _).mono ?_;rintro e w' ⟨rfl,rfl⟩) | (go_at_call 62;refine (l1Value_any _ _).mono ?_;rintro e w' ⟨rfl,rfl⟩));go_quiet (fail);go_wp2_with fail;go_ret;exact ⟨ret_int HE.out.symm,by have hs:=HB.out.size;repeat (first | exact HB.out | apply Below.drew | refine below_drewN ?_ _ | refine Below.alloc ?_ (by first | omega | (simp;omega)) _)⟩
        · by_cases hv:(R k).v=0
          · have hq:True:=trivial
            by_cases hz:(R k).a=0
            · rcases Nat.eq_zero_or_pos k with hk9 | hpos
              · have hd:decide (0<k)=false:=by simp;omega
                have hk8:¬0<k:=(by omega);have HE:Hid (chf R n 0=chf R (n-(k+1)) (k+1)):=HA2.out.trans (if_neg (by simp [vF,older,hg,hv,hk8]));clear HA2;clear hk9 hk8;generalize R k=r at *;obtain ⟨t,a,g,v⟩:=r;obtain ⟨x0,x1,x2,x3⟩:=hX;simp only at x0 x1 x2 x3 h1 h2 h3 hz hg hv;subst hg hv;subst hz;clear h2;go_wp2_with (first | (go_at_call 130;refine (l5Txn_any _ _).mono ?_;rintro e w' ⟨rfl,rfl⟩) | (go_at_call 222;refine (l5At_any _ _).mono ?_;rintro e w' ⟨rfl,rfl⟩) | (go_at_call 62;refine (l1Value_any _ _).mono ?_;rintro e w' ⟨rfl,rfl⟩));go_quiet (fail);go_wp2_with fail;go_roundw
                case rel=>exact ⟨k+1,hlt,by go_num,HE,by have hs:=HB.out.size;repeat (first | exact HB.out | apply Below.drew | refine below_drewN ?_ _ | refine Below.alloc ?_ (by first | omega | (simp;omega)) _)⟩
                case measure=>simp [intOf];omega
              · have hd:decide (0<k)=true:=by simp;omega
                have HE:Hid (chf R n 0=1):=HA2.out.trans (if_pos (by simp [vF,older,hg,hv,hz,hpos]));clear HA2;generalize R k=r at *;obtain ⟨t,a,g,v⟩:=r;obtain ⟨x0,x1,x2,x3⟩:=hX;simp only at x0 x1 x2 x3 h1 h2 h3 hz hg hv;subst hg hv;subst hz;clear h2;go_wp2_with (first | (go_at_call 130;refine (l5Txn_any _ _).mono ?_;rintro e w' ⟨rfl,rfl⟩) | (go_at_call 222;refine (l5At_any _ _).mono ?_;rintro e w' ⟨rfl,rfl⟩) | (go_at_call 62;refine (l1Value_any _ _).mono ?_;rintro e w' ⟨rfl,rfl⟩));go_quiet (fail);go_wp2_with fail;go_ret;exact ⟨ret_int HE.out.symm,by have hs:=HB.out.size;repeat (first | exact HB.out | apply Below.drew | refine below_drewN ?_ _ | refine Below.alloc ?_ (by first | omega | (simp;omega)) _)⟩
            · rcases Nat.eq_zero_or_pos k with hk9 | hpos
              · have hd:decide (0<k)=false:=by simp;omega
                have hk8:¬0<k:=(by omega);have HE:Hid (chf R n 0=chf R (n-(k+1)) (k+1)):=HA2.out.trans (if_neg (by simp [vF,older,hg,hv,hk8]));clear HA2;clear hk9 hk8;generalize R k=r at *;obtain ⟨t,a,g,v⟩:=r;obtain ⟨x0,x1,x2,x3⟩:=hX;simp only at x0 x1 x2 x3 h1 h2 h3 hz hg hv;subst hg hv;have hz':(a != 0)=true:=(by simp [hz]);have hz2:(a == 0)=false:=(by simp [hz]);have h4:inB a 1 1000000=true:=(inB_at hz).trans h2;clear h2;go_wp2_with (first | (go_at_call 130;refine (l5Txn_any _ _).mono ?_;rintro e w' ⟨rfl,rfl⟩) | (go_at_call 222;refine (l5At_any _ _).mono ?_;rintro e w' ⟨rfl,rfl⟩) | (go_at_call 62;refine (l1Value_any _ _).mono ?_;rintro e w' ⟨rfl,rfl⟩));go_quiet (fail);go_wp2_with fail;go_roundw
                case rel=>exact ⟨k+1,hlt,by go_num,HE,by have hs:=HB.out.size;repeat (first | exact HB.out | apply Below.drew | refine below_drewN ?_ _ | refine Below.alloc ?_ (by first | omega | (simp;omega)) _)⟩
                case measure=>simp [intOf];omega
              · obtain ⟨j,rfl⟩:∃j,k=j+1:=⟨k-1,by omega⟩;have hP:=(HC.out j (by omega)).block (HB.out.block _ hbl);have hj1:(j:Int)<(n:Int):=(by omega);have hj2:(0:Int)≤(j:Int):=(by omega);have hj3:(0:Int)<(j:Int)+1:=(by omega);have hwj:IntKind.i64.wrap (j:Int)=(j:Int):=(by rw [IntKind.wrap_i64];omega);have hPB:∀o:Obj,C4 (wr.alloc o) b (off+j*4) (R j):=fun o=>hP.below (below_new _ _);clear hP hpos
                by_cases hp:(R j).a=0
                · have hq:True:=trivial;have HE:Hid (chf R n 0=chf R (n-(j+1+1)) (j+1+1)):=HA2.out.trans (if_neg (by simp [vF,older,hg,hv,hz,hp]));clear HA2;generalize R (j+1)=r at *;obtain ⟨t,a,g,v⟩:=r;generalize R j=p at *;obtain ⟨pt,pa,pg,pv⟩:=p;obtain ⟨x0,x1,x2,x3⟩:=hX;simp only at x0 x1 x2 x3 h1 h2 h3 hz hp hg hv;have y1:=fun o=>(hPB o).2.1;simp only at y1;clear hPB;subst hp;subst hg hv;have hz':(a != 0)=true:=(by simp [hz]);have hz2:(a == 0)=false:=(by simp [hz]);have h4:inB a 1 1000000=true:=(inB_at hz).trans h2;clear h2;go_wp2_with (first | (go_at_call 130;refine (l5Txn_any _ _).mono ?_;rintro e w' ⟨rfl,rfl⟩) | (go_at_call 222;refine (l5At_any _ _).mono ?_;rintro e w' ⟨rfl,rfl⟩) | (go_at_call 62;refine (l1Value_any _ _).mono ?_;rintro e w' ⟨rfl,rfl⟩));go_quiet (fail);go_wp2_with fail;go_roundw
                  case rel=>exact ⟨j+1+1,hlt,by go_num,HE,by have hs:=HB.out.size;repeat (first | exact HB.out | apply Below.drew | refine below_drewN ?_ _ | refine Below.alloc ?_ (by first | omega | (simp;omega)) _)⟩
                  case measure=>simp [intOf];omega
                · by_cases ha:(R (j+1)).a<(R j).a
                  · have hq:True:=trivial;have HE:Hid (chf R n 0=chf R (n-(j+1+1)) (j+1+1)):=HA2.out.trans (if_neg (by simp [vF,older,hg,hv,hz,ha]));clear HA2;generalize R (j+1)=r at *;obtain ⟨t,a,g,v⟩:=r;generalize R j=p at *;obtain ⟨pt,pa,pg,pv⟩:=p;obtain ⟨x0,x1,x2,x3⟩:=hX;simp only at x0 x1 x2 x3 h1 h2 h3 hz hp hg hv;have y1:=fun o=>(hPB o).2.1;simp only at y1;clear hPB;have hp':(pa != 0)=true:=(by simp [hp]);simp only at ha;have ha':decide (pa≤a)=false:=(by simp;omega);subst hg hv;have hz':(a != 0)=true:=(by simp [hz]);have hz2:(a == 0)=false:=(by simp [hz]);have h4:inB a 1 1000000=true:=(inB_at hz).trans h2;clear h2;go_wp2_with (first | (go_at_call 130;refine (l5Txn_any _ _).mono ?_;rintro e w' ⟨rfl,rfl⟩) | (go_at_call 222;refine (l5At_any _ _).mono ?_;rintro e w' ⟨rfl,rfl⟩) | (go_at_call 62;refine (l1Value_any _ _).mono ?_;rintro e w' ⟨rfl,rfl⟩));go_quiet (fail);go_wp2_with fail;go_roundw
                    case rel=>exact ⟨j+1+1,hlt,by go_num,HE,by have hs:=HB.out.size;repeat (first | exact HB.out | apply Below.drew | refine below_drewN ?_ _ | refine Below.alloc ?_ (by first | omega | (simp;omega)) _)⟩
                    case measure=>simp [intOf];omega
                  · have hq:True:=trivial;have HE:Hid (chf R n 0=1):=HA2.out.trans (if_pos (by simp [vF,older,hg,hv,hz,hp,ha]));clear HA2;generalize R (j+1)=r at *;obtain ⟨t,a,g,v⟩:=r;generalize R j=p at *;obtain ⟨pt,pa,pg,pv⟩:=p;obtain ⟨x0,x1,x2,x3⟩:=hX;simp only at x0 x1 x2 x3 h1 h2 h3 hz hp hg hv;have y1:=fun o=>(hPB o).2.1;simp only at y1;clear hPB;have hp':(pa != 0)=true:=(by simp [hp]);simp only at ha;have ha':decide (pa≤a)=true:=(by simp;omega);subst hg hv;have hz':(a != 0)=true:=(by simp [hz]);have hz2:(a == 0)=false:=(by simp [hz]);have h4:inB a 1 1000000=true:=(inB_at hz).trans h2;clear h2;go_wp2_with (first | (go_at_call 130;refine (l5Txn_any _ _).mono ?_;rintro e w' ⟨rfl,rfl⟩) | (go_at_call 222;refine (l5At_any _ _).mono ?_;rintro e w' ⟨rfl,rfl⟩) | (go_at_call 62;refine (l1Value_any _ _).mono ?_;rintro e w' ⟨rfl,rfl⟩));go_quiet (fail);go_wp2_with fail;go_ret;exact ⟨ret_int HE.out.symm,by have hs:=HB.out.size;repeat (first | exact HB.out | apply Below.drew | refine below_drewN ?_ _ | refine Below.alloc ?_ (by first | omega | (simp;omega)) _)⟩
          · have hv':((R k).v != 0)=true:=by simp [hv]
            by_cases hz:(R k).a=0
            · have hq:True:=trivial;have HE:Hid (chf R n 0=1):=HA2.out.trans (if_pos (by simp [vF,older,hg,hv]));clear HA2;generalize R k=r at *;obtain ⟨t,a,g,v⟩:=r;obtain ⟨x0,x1,x2,x3⟩:=hX;simp only at x0 x1 x2 x3 h1 h2 h3 hz hg hv hv';subst hg;subst hz;clear h2;go_wp2_with (first | (go_at_call 130;refine (l5Txn_any _ _).mono ?_;rintro e w' ⟨rfl,rfl⟩) | (go_at_call 222;refine (l5At_any _ _).mono ?_;rintro e w' ⟨rfl,rfl⟩) | (go_at_call 62;refine (l1Value_any _ _).mono ?_;rintro e w' ⟨rfl,rfl⟩));go_quiet (fail);go_wp2_with fail;go_ret;exact ⟨ret_int HE.out.symm,by have hs:=HB.out.size;repeat (first | exact HB.out | apply Below.drew | refine below_drewN ?_ _ | refine Below.alloc ?_ (by first | omega | (simp;omega)) _)⟩
            · have hq:True:=trivial;have HE:Hid (chf R n 0=1):=HA2.out.trans (if_pos (by simp [vF,older,hg,hv]));clear HA2;generalize R k=r at *;obtain ⟨t,a,g,v⟩:=r;obtain ⟨x0,x1,x2,x3⟩:=hX;simp only at x0 x1 x2 x3 h1 h2 h3 hz hg hv hv';subst hg;have hz':(a != 0)=true:=(by simp [hz]);have hz2:(a == 0)=false:=(by simp [hz]);have h4:inB a 1 1000000=true:=(inB_at hz).trans h2;clear h2;go_wp2_with (first | (go_at_call 130;refine (l5Txn_any _ _).mono ?_;rintro e w' ⟨rfl,rfl⟩) | (go_at_call 222;refine (l5At_any _ _).mono ?_;rintro e w' ⟨rfl,rfl⟩) | (go_at_call 62;refine (l1Value_any _ _).mono ?_;rintro e w' ⟨rfl,rfl⟩));go_quiet (fail);go_wp2_with fail;go_ret;exact ⟨ret_int HE.out.symm,by have hs:=HB.out.size;repeat (first | exact HB.out | apply Below.drew | refine below_drewN ?_ _ | refine Below.alloc ?_ (by first | omega | (simp;omega)) _)⟩
    · have HE2:Hid (chf R n 0=0):=by
        refine HE.out.trans ?_;rw [show n-k=0 by omega,chf]
      have hnl:¬((k:Int)<(n:Int)):=(by omega);clear HE;go_wp2_with fail;go_ret;exact ⟨ret_int HE2.out.symm,HB.out⟩
theorem specChf_zero (a:Option Addr) (cap:Nat) (w:World):Calls Tryz.prog 188 #[.slice a 0 cap] w fun e w'=>e=.returned (.int .i64 0)∧Below w.heap.size w w':=by
  go_enter Tryz.func188,Tryz.ntmps188;go_wp2;go_loop [3,4] (fun i _=>i=.int .i64 0) (fun _ _=>0)
  case atStart=>exact rfl
  case round=>
    obtain rfl:=hrel;go_wp2;go_ret;exact ⟨rfl,Below.refl _ _⟩
theorem specChF_any (n:Nat) (R:Nat→Vr) (a:Option Addr) (cap:Nat) (w:World) (hn:n≤9223372036854775807) (h:VersAt w a n R) :
    Calls Tryz.prog 188 #[.slice a n cap] w fun e w'=>e=.returned (.int .i64 (chF n R))∧Below w.heap.size w w':=by
  by_cases h12:12<n
  · have HE:Hid (chF n R=2):=if_pos h12;have h12':(12:Int)<(n:Int):=(by omega);clear h;go_enter Tryz.func188,Tryz.ntmps188;go_wp2_with fail;go_ret;exact ⟨ret_int HE.out.symm,Below.refl _ _⟩
  · rw [show chF n R=chf R n 0 from if_neg h12]
    rcases h with rfl | ⟨b,off,rfl,hl,hc⟩
    · exact specChf_zero a cap w
    · exact specChf_some n R b off cap w (by omega) hl hc
end Go.Proofs.YtjdodbiphijjgaaGreat
