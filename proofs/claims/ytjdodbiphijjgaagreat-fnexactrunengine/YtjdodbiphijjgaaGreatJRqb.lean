import Derived.Test.YtjdodbiphijjgaaGreatJBga
import Derived.Test.YtjdodbiphijjgaaGreatJVj
import Derived.Test.YtjdodbiphijjgaaGreatJVn
namespace Go.Proofs.YtjdodbiphijjgaaGreat
open Go.RowKit Go.Deep
set_option linter.unusedVariables false
set_option linter.unusedSimpArgs false
set_option maxRecDepth 20000
theorem run_app_zeroHRw (w:World) (ty:TypeId) (ba:Option Addr) (n c:Nat) (xa:Option Addr) (xc:Nat) (h:n≤c) :
    (Builtin.append_ #[28,28] ty #[.slice ba n c,.slice xa 0 xc]).run Tryz.prog w=.ok (.slice ba n c) w:=by
  cases ba <;> cases xa <;> simp [Builtin.append_,go_sem,h,Builtin.firstCells,storeCells]
theorem hbRw_one:∀(xs:List HRw),∀u ∈ hbRw xs,u.oneCell'=true
  | [],u,h=>by simp [hbRw] at h
  | x :: xs,u,h=>by
    simp only [hbRw,List.mem_append] at h
    rcases h with h | h
    · exact rcRw_one _ _ _ u h
    · exact hbRw_one xs u h
theorem rowH_slice {w:World} {base n:Nat} {v:Value} {xs:List Value} (h:w.ownsRow base 173 2 v n xs):∃a cap,v=.slice a n cap∧n≤cap:=by
  rcases h.2 with ⟨rfl,h0⟩ | ⟨g,cap,cur,rfl,_,_,hc,_⟩
  · exact ⟨none,0,by rw [h0],by omega⟩
  · exact ⟨_,cap,rfl,hc⟩
theorem wp_appHLRw {o:Oper} {a:Act} {K:Act→World→Prop} {Q:Exit→Act→World→Prop} (w:World) (s x:Operand)
    (ho:o.op=.call { callee:=.builtin .append,args:=#[s,x],argTypes:=#[28,28] })
    (base:Nat) (v:Value) (n:Nat) (xs:List HRw) (hn:xs.length=n) (hs:a.eval s=v) (hown:w.ownsRow base 173 2 v n (hbRw xs))
    (xa:Option Addr) (m c:Nat) (ys:List HRw) (hy:ys.length=m) (hx:a.eval x=.slice xa m c) (hb:HAtRw w xa ys) (h63:n+m≤100000) (hbase:base≤w.heap.size)
    (h:∀v' w',w'.ownsRow base 173 2 v' (n+m) (hbRw (xs ++ ys))→w.grownBy w' v.ownBlock→K (a.put o.dst v') w'):o.wp Tryz.prog a w K Q:=by
  by_cases hm:m=0
  · subst hm;obtain ⟨ba,cap,rfl,hcap⟩:=rowH_slice hown;have hr:=run_app_zeroHRw w o.type ba n cap xa c hcap;unfold Oper.wp execOp;simp only [ho,resolve,invoke,builtin,Sem.run_bind,Sem.run_pure,Result.andThen_ok,List.map_toArray,List.map_cons,List.map_nil,hs,hx,hr];refine h _ w ?_ (grown_refl _ _);rw [List.eq_nil_of_length_eq_zero hy,List.append_nil];exact hown
  · rcases hb with hb | ⟨b,off,rfl,hbl,hc⟩
    · rw [hb] at hy;exact absurd hy.symm hm
    · obtain ⟨i0,hi,hz0,hz1,hz2⟩:=info_parts2 infoRw;refine wp_append_own w s x 28 ho base 173 i0 _ 2 32 Tryz.underlying28 hi hz0 hz1 hz2 rfl (by decide) v n (hbRw xs) hs hown ⟨b,off,none⟩ m c (hbRw ys) hx (by rw [hbRw_len,hy]) (fun j u hj=>?_) (hbRw_one _) (by unfold maxLen;omega) (by omega) hbase fun v' w' h2 h3 _=>h v' w' ?_ h3
      · have hjl:j<m*2:=by
          have:=(List.getElem?_eq_some_iff.1 hj).1
          rwa [hbRw_len,hy] at this
        obtain ⟨z,hz⟩:∃z,ys[j / 2]? = some z:=⟨_,List.getElem?_eq_getElem (by omega)⟩;have hg:=hbRw_get ys (j / 2) (j % 2) z hz (by omega);rw [show j / 2*2+j % 2=j by omega,hj] at hg;rw [WideShapes.add_plain];obtain ⟨q0,q1⟩:=hc (j / 2) z hz;have hd:j % 2=0∨j % 2=1:=(by omega)
        rcases hd with e | e
        · rw [e] at hg;rw [show off+j=off+j / 2*2 by omega,q0,hg];rfl
        · rw [e] at hg;rw [show off+j=off+j / 2*2+1 by omega,q1,hg];rfl
      · rw [hbRw_app];exact h2
theorem wpList_appHLRw {ops:Array Oper} {rest:List Oper} {o:Oper} {a:Act} {Q:Exit→Act→World→Prop} (w:World) (hgd:o.guard=none) (s x:Operand)
    (ho:o.op=.call { callee:=.builtin .append,args:=#[s,x],argTypes:=#[28,28] })
    (base:Nat) (v:Value) (n:Nat) (xs:List HRw) (hn:xs.length=n) (hs:a.eval s=v) (hown:w.ownsRow base 173 2 v n (hbRw xs))
    (xa:Option Addr) (m c:Nat) (ys:List HRw) (hy:ys.length=m) (hx:a.eval x=.slice xa m c) (hb:HAtRw w xa ys) (h63:n+m≤100000) (hbase:base≤w.heap.size)
    (h:∀v' w',w'.ownsRow base 173 2 v' (n+m) (hbRw (xs ++ ys))→w.grownBy w' v.ownBlock→wpList Tryz.prog ops Q rest (a.put o.dst v') w'):wpList Tryz.prog ops Q (o :: rest) a w:=
  wpList_plain hgd fun _ hK=>wp_appHLRw w s x ho base v n xs hn hs hown xa m c ys hy hx hb h63 hbase fun v' w' h2 h3=>hK _ _ (h v' w' h2 h3)
def jH (Z:Nat→List HRw):Nat→List HRw
  | 0=>[]
  | k+1=>jH Z k ++ Z k
set_option maxHeartbeats 2000000 in
theorem joinedHRw_any (m:Nat) (A:Nat→Option Addr) (N C:Nat→Nat) (Z:Nat→List HRw) (pb po pc:Nat) (w:World) (hs:∀k,k≤m→(jH Z k).length≤1000) (hN:∀i,i<m→(Z i).length=N i) (hpb:pb<w.heap.size)
    (hp:∀i,i<m→w.cell? ⟨pb,po+i,none⟩=some (.slice (A i) (N i) (C i))∧HAtRw w (A i) (Z i)) (hm:m≤3) :
    Calls Tryz.prog 241 #[.slice (some ⟨pb,po,none⟩) m pc] w fun e w'=>∃a c,e=.returned (.slice a (jH Z m).length c)∧Below w.heap.size w w'∧w'.ownsRow w.heap.size 173 2 (.slice a (jH Z m).length c) (jH Z m).length (hbRw (jH Z m)):=by
  have HP:Hid (∀i,i<m→w.cell? ⟨pb,po+i,none⟩=some (.slice (A i) (N i) (C i))∧HAtRw w (A i) (Z i)):=hp;have HL:Hid (∀k,k≤m→(jH Z k).length≤1000):=hs;have HN:Hid (∀i,i<m→(Z i).length=N i):=hN;clear hp hs hN;go_enter Tryz.func241,Tryz.ntmps241;go_wp2_with fail;go_loopw [3,5,8] (fun v _ i wr=>∃k:Nat,k≤m∧i=.int .i64 k∧Hid (Below w.heap.size w wr)∧Hid (wr.ownsRow w.heap.size 173 2 v (jH Z k).length (hbRw (jH Z k)))) (fun _ _ i _=>m-(Go.RowKit.intOf i).toNat)
  case atStart=>exact ⟨0,by omega,rfl,Below.refl _ _,World.ownsRow_nil _ _ _ _⟩
  case round=>
    obtain ⟨k,hk,rfl,HB,HO⟩:=hrel
    by_cases hlt:k<m
    · have hlt':(k:Int)<(m:Int):=by omega
      have hk1:(0:Int)≤(k:Int):=(by omega);have hc:=cell_below (HP.out k hlt).1 HB.out;have HBA:Hid (HAtRw wr (A k) (Z k)):=(HP.out k hlt).2.below HB.out
      have HLE:Hid ((jH Z k).length+N k≤100000):=by
        have h1:=HL.out (k+1) (by omega);rw [jH,List.length_append,HN.out k hlt] at h1;show (jH Z k).length+N k≤100000;omega
      go_wp2_with (at_builtin;refine wpList_appHLRw _ rfl (.tmp 12) (.tmp 13) rfl w.heap.size _ (jH Z k).length (jH Z k) rfl rfl HO.out (A k) (N k) (C k) (Z k) (HN.out k hlt) rfl HBA.out HLE.out HB.out.size ?_);intro v1 w1 ho1 hg1
      have HO1:Hid (w1.ownsRow w.heap.size 173 2 v1 (jH Z (k+1)).length (hbRw (jH Z (k+1)))):=by
        show w1.ownsRow w.heap.size 173 2 v1 (jH Z k ++ Z k).length (hbRw (jH Z k ++ Z k));rw [List.length_append,HN.out k hlt];exact ho1
      have HB1:Hid (Below w.heap.size w w1):=HB.out.grown hg1 HB.out.size (fun q hq=>(HO.out.lt q hq).1);clear ho1 hg1;go_wp2_with fail;go_roundw
      case rel=>exact ⟨k+1,hlt,by go_num,HB1,HO1⟩
      case measure=>simp [Go.RowKit.intOf];omega
    · have hkn:k=m:=by omega
      subst hkn;obtain ⟨va,vc,rfl,hvc⟩:=rowH_slice HO.out;go_wp2_with fail;go_ret;exact ⟨_,_,rfl,HB.out,HO.out⟩
theorem joined2H_any (xs ys:List HRw) (a1 a2:Option Addr) (n1 n2 c1 c2 pb:Nat) (w:World) (hx:xs.length=n1) (hy:ys.length=n2) (h0:w.cell? ⟨pb,0,none⟩=some (.slice a1 n1 c1)) (h1:w.cell? ⟨pb,1,none⟩=some (.slice a2 n2 c2)) (hX:HAtRw w a1 xs) (hY:HAtRw w a2 ys) (hl:n1+n2≤900) :
    Calls Tryz.prog 241 #[.slice (some ⟨pb,0,none⟩) 2 2] w fun e w'=>∃a c,e=.returned (.slice a (xs ++ ys).length c)∧Below w.heap.size w w'∧w'.ownsRow w.heap.size 173 2 (.slice a (xs ++ ys).length c) (xs ++ ys).length (hbRw (xs ++ ys)):=by
  have ej:jH (fun i=>if i=0 then xs else ys) 2=xs ++ ys:=(by simp [jH]);have h:=joinedHRw_any 2 (fun i=>if i=0 then a1 else a2) (fun i=>if i=0 then n1 else n2) (fun i=>if i=0 then c1 else c2) (fun i=>if i=0 then xs else ys) pb 0 2 w (fun k hk=>?_) (fun i hi=>?_) (Go.block_lt_of_cell h0) (fun i hi=>?_) (by omega)
  · rw [ej] at h;exact h
  · have:k=0∨k=1∨k=2:=by omega
    rcases this with rfl | rfl | rfl <;> simp [jH] <;> omega
  · have:i=0∨i=1:=by omega
    rcases this with rfl | rfl
    · simpa using hx
    · simpa using hy
  · have:i=0∨i=1:=by omega
    rcases this with rfl | rfl
    · exact ⟨by simpa using h0,by simpa using hX⟩
    · exact ⟨by simpa using h1,by simpa using hY⟩
def tkR (id:Int) (u:Ud) (r:Rw):Rw:=if u.h=true then ⟨r.key,r.n,fun i=>if i=0 then ⟨id,0,u.g,u.v⟩ else r.U i⟩ else ⟨r.key,r.n-1,fun i=>r.U (i+1)⟩
def tkF (id:Int) (u:Ud) (r:Rw):Rw:=if r.key=u.k then tkR id u r else r
def tkL (id:Int) (u:Ud) (rs:List Rw):List Rw:=(rs.map (tkF id u)).filter (fun r=>decide (0<r.n))
def unL (id:Int) (U:Nat→Ud) (n:Nat) (rs:List Rw):Nat→List Rw
  | 0=>rs
  | m+1=>tkL id (U (n-1-m)) (unL id U n rs m)
theorem tkF_key (id:Int) (u:Ud) (r:Rw):(tkF id u r).key=r.key:=by
  unfold tkF tkR;split
  · split <;> rfl
  · rfl
def RiL (rs:List Rw):Prop:=rs.Pairwise (fun x y=>x.key<y.key)
structure Fit (U:Nat→Ud) (k:Nat) (rs:List Rw):Prop where
  ri:RiL rs
  pos:∀r ∈ rs,0<r.n
  has:∀j,j<k→∃r ∈ rs,r.key=(U j).k
theorem Fit.step {U:Nat→Ud} {k:Nat} {rs:List Rw} {id:Int} (h:Fit U (k+1) rs) (hh:(U k).h=hasU U (U k).k k):Fit U k (tkL id (U k) rs):=by
  refine ⟨?_,?_,fun j hj=>?_⟩
  · refine List.Pairwise.filter _ (List.pairwise_map.2 (h.ri.imp fun hlt=>?_));rw [tkF_key,tkF_key];exact hlt
  · intro r hr;have:=(List.mem_filter.1 hr).2
    simpa using this
  · obtain ⟨r,hr,e⟩:=h.has j (by omega);refine ⟨tkF id (U k) r,List.mem_filter.2 ⟨List.mem_map.2 ⟨r,hr,rfl⟩,?_⟩,by rw [tkF_key];exact e⟩;have hp:=h.pos r hr;unfold tkF;split
    · rename_i e2
      have hu:(U k).h=true:=by
        rw [hh];exact hasU_true hj (by rw [←e,e2])
      unfold tkR;rw [if_pos hu]
      simpa using hp
    · simpa using hp
theorem Fit.un {U:Nat→Ud} {n:Nat} {rs:List Rw} {id:Int} (h:Fit U n rs) (hh:∀j,j<n→(U j).h=hasU U (U j).k j):∀m,m≤n→Fit U (n-m) (unL id U n rs m)
  | 0,_=>h
  | m+1,hm=>by
    have h1:=Fit.un h hh m (by omega) (id:=id);have e:n-m=n-(m+1)+1:=(by omega);rw [e] at h1;have e2:n-1-m=n-(m+1):=(by omega);show Fit U (n-(m+1)) (tkL id (U (n-1-m)) (unL id U n rs m));rw [e2];exact h1.step (hh _ (by omega))
theorem unL_len (id:Int) (U:Nat→Ud) (n:Nat) (rs:List Rw):∀m,(unL id U n rs m).length≤rs.length
  | 0=>Nat.le_refl _
  | m+1=>by
    have h1:=unL_len id U n rs m;have h2:=List.length_filter_le (fun r:Rw=>decide (0<r.n)) ((unL id U n rs m).map (tkF id (U (n-1-m))));rw [List.length_map] at h2;exact Nat.le_trans h2 h1
theorem unL_12 (id:Int) (U:Nat→Ud) (n:Nat) (rs:List Rw) (h:∀r ∈ rs,r.n≤12):∀m,∀r ∈ unL id U n rs m,r.n≤12
  | 0=>h
  | m+1=>by
    intro r hr;obtain ⟨h1,_⟩:=List.mem_filter.1 hr;obtain ⟨r0,h2,rfl⟩:=List.mem_map.1 h1;have h3:=unL_12 id U n rs h m r0 h2;unfold tkF tkR;split
    · split
      · exact h3
      · show r0.n-1≤12;omega
    · exact h3
theorem eF_ow {E:En} (h:eF E=0):∀i,i<E.p→owB E.q E.R (E.T i)=true:=by
  unfold eF at h;split at h
  · omega
  · split at h
    · omega
    · split at h
      · split at h
        · split at h
          · rename_i h9;exact (allb_iff _ _).1 h9
          · omega
        · rename_i h1 h2;exact absurd h h2
      · rename_i h1;exact absurd h h1
theorem undo_row {E:En} (h:eF E=0) {i:Nat} (hi:i<E.p) {j:Nat} (hj:j<(E.T i).n):(∃k,k<E.q∧(E.R k).key=((E.T i).U j).k)∧((E.T i).U j).h=hasU (E.T i).U ((E.T i).U j).k j:=by
  have h1:=(allb_iff _ _).1 (eF_ow h i hi) j hj;unfold oB at h1;simp only [Bool.and_eq_true,decide_eq_true_eq,beq_iff_eq] at h1;refine ⟨?_,h1.2⟩
  rcases fi_cases (fun k=>(E.R k).key == ((E.T i).U j).k) E.q with ⟨h2,_⟩ | ⟨k,hk,h2,h3,_⟩
  · have h4:=h1.1.1;unfold fR at h4;rw [h2] at h4;omega
  · exact ⟨k,hk,by simpa using h3⟩
def rwL (E:En):List Rw:=(List.range E.q).map E.R
theorem fit_start {E:En} (h:eF E=0) {i:Nat} (hi:i<E.p):Fit (E.T i).U (E.T i).n (rwL E):=by
  have hR:=(eF_good h).2.2.2;refine ⟨?_,fun r hr=>?_,fun j hj=>?_⟩
  · refine List.pairwise_map.2 (List.pairwise_iff_getElem.2 fun a b ha hb hab=>?_);simp only [List.getElem_range];simp only [List.length_range] at hb;exact keys_rise hR b hb a hab
  · obtain ⟨k,hk,rfl⟩:=List.mem_map.1 hr;have h1:=(rF_good (hR k (List.mem_range.1 hk))).2.1;unfold rB1 at h1;simp only [Bool.or_eq_false_iff,beq_eq_false_iff_ne] at h1;omega
  · obtain ⟨k,hk,e⟩:=(undo_row h hi hj).1;exact ⟨E.R k,List.mem_map.2 ⟨k,List.mem_range.2 hk,rfl⟩,e⟩
def rlE (E:En) (j save:Nat) (st:Int):En:=
  ⟨E.nx,E.ck,E.p,upf E.T j ⟨(E.T j).id,(E.T j).am,st,(E.T j).dn,save,(E.T j).U⟩,(unL (E.T j).id (E.T j).U (E.T j).n (rwL E) ((E.T j).n-save)).length,fun i=>(unL (E.T j).id (E.T j).U (E.T j).n (rwL E) ((E.T j).n-save)).getD i zRw⟩
end Go.Proofs.YtjdodbiphijjgaaGreat
