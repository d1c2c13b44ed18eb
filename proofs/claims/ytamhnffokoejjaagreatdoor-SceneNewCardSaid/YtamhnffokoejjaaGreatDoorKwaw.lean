import Derived.Lib.AppendZeros
import Derived.Test.YtamhnffokoejjaaGreatDoorKwav
import Derived.Test.YtamhnffokoejjaaGreatDoorKwal
set_option linter.all false
set_option maxHeartbeats 3200000
set_option maxRecDepth 100000
namespace Go.Proofs.YtamhnffokoejjaaGreatDoor
open List(getElem_mem replicate length_append length_replicate append_assoc replicate_succ' take_of_length_le eq_nil_of_length_eq_zero length_cons getElem?_eq_getElem length_take length_drop mem_cons not_mem_nil)
open Nat(le_refl le_of_eq eq_zero_or_pos)
open Go.Proofs.Tryz
open Go.RowKit
section
variable{l:Aa}{n s:Int}{B j m:Nat}{v x:Value}{w w':World}
abbrev OI(w:World)(B:Nat)(v:Value)(l:List Int):Prop:=ON .i64 3 w B v l
def V7(W:World)(l:List Int)(e:Ending)(w':World):Prop:=∃v,e=.returned v/\AA W w'/\OI w' W.heap.size v l
theorem WX(w:World):OI (w.alloc (.cells #[] 3)) w.heap.size (.slice (some ⟨w.heap.size,0,none⟩) 0 0) []:=ON.empty (le_refl _) (Ae rfl)
theorem VU(b off n cap:Nat)(l:Aa)(w:World)(hl:l.length=n)(hn:n<=100000)(hN:CV l)(h4:(AM l).length<=4000)(hb:b<w.heap.size)(hc:∀(j:Nat) (h:j<l.length),w.cell? ⟨b,off+j*2,none⟩=some (.int .i64 l[j].1)/\w.cell? ⟨b,off+j*2+1,none⟩=some (.int .i64 l[j].2)):
 Calls prog 57 #[.slice (some ⟨b,off,none⟩) n cap] w (V7 w (AM l)):=by
 have HL:=AC hl;have HC:=AC hc;have J3:=AC hN;have H4:=AC h4;clear hl hc hN h4;go_enter func57,ntmps57;go_wp2_with fail;go_loopg [3,4] n (fun k v i wr=>∃j:Nat,k=n-j/\j<=n/\i=.int .i64 j/\AA w wr/\OI wr w.heap.size v (AM (l.take j)))
 case atStart=>exact ⟨0,AD,AD,rfl,(AA.refl w).alloc _,WX w⟩
 case round=>
  obtain ⟨j,hk,hj,rfl,ha,ho⟩:=hrel;have HA:=AC (And.intro ha ho);by_cases BN:j<n
  ·have lj:j<l.length:=by rw[HL.out];exact BN
   have c0:wr.cell? ⟨b,off+j*2,none⟩=some (.int .i64 l[j].1):=(ha.below.cell hb).trans (HC j lj).1;have c1:wr.cell? ⟨b,off+j*2+1,none⟩=some (.int .i64 l[j].2):=(ha.below.cell hb).trans (HC j lj).2;have Kk:=AC (HC j lj);have HS:=AC (Dn lj);have HM:=AC (I8 l (j+1));have hx:=J3 l[j] (getElem_mem lj);have HO:Hid (((DY l[j]).length:Int)=if CY l[j] then l[j].1 else 0):=AC FG;have uA:Hid (CY l[j]=true->DY l[j]=replicate l[j].1.toNat l[j].2):=AC (fun h=>by unfold DY;rw[if_pos h]);generalize l[j]=x at *;obtain ⟨f,s⟩:=x;simp only at c0 c1 hx HO Kk uA
   obtain ⟨m,hm⟩:=BZ ((DY (f,s)).length);obtain ⟨D,hD⟩:=BZ (AM (l.take j));have hm4:D.length+m<=4000:=by
    have h1:=HM.out;rw[HS.out,length_append,hD,hm]at h1;have:=H4.out
    omega
   have ji:Hid (DY (f,s)=replicate m s):=AC (by
    cases hf:CY (f,s) with
    |true=>rw[uA hf]at hm ⊢;rw[length_replicate]at hm;rw[hm]
    |false=>
     have h0:DY (f,s)=[]:=by unfold DY;rw[hf];rfl
     rw[h0]at hm ⊢;subst hm;rfl)
   rw[hm]at HO;have HD:=AC hD;obtain ⟨fb,fX⟩:∃c,CY (f,s)=c:=⟨_,rfl⟩;have HF:=AC (fun w=>QM f s w fb fX hx.1 hx.2);rw[fX]at HO;have hfm:fb=true->(m:Int)=f/\1<=f:=fun h=>by
    have:=HO.out
    rw[h]at this;exact ⟨this,(Cz (fX.trans h)).1⟩
   have hfz:fb=false->m=0:=fun h=>by
    have:=HO.out
    rw[h]at this;simpa using this
   have HFM:=AC hfm;have HFZ:=AC hfz;rw[hD]at ho HA;clear hx hm hD HO uA fX hfm hfz HM;go_wp2_with fail;go_loopg [3,5] m (fun k v i wr2=>∃q:Nat,k=m-q/\q<=m/\i=.int .i64 q/\AA w wr2/\OI wr2 w.heap.size v (D++replicate q s))
   case atStart=>exact ⟨0,AD,AD,rfl,HA.out.1,by simpa using HA.out.2⟩
   case round=>
    obtain ⟨q,hkq,hq,rfl,h2,h3⟩:=hrel;have HB:=AC (And.intro h2 h3);have hbq:b<wr.heap.size:=Nat.lt_of_lt_of_le hb h2.below.size;have d0:wr.cell? ⟨b,off+j*2,none⟩=some (.int .i64 f):=(h2.below.cell hb).trans Kk.out.1;have d1:wr.cell? ⟨b,off+j*2+1,none⟩=some (.int .i64 s):=(h2.below.cell hb).trans Kk.out.2;clear c0 c1 ho;by_cases hqf:(q:Int)<f
    ·cases fX:fb with
     |false=>
      have hq0:m=0:=HFZ fX;subst fX;have Y15:q=0:=AD;have HE:Hid (AM (l.take (j+1))=D++replicate q s):=AC (by rw[HS.out,HD.out,ji.out,hq0,Y15]);go_wp2_with (go_at_call 98;refine (HF _).mono ?_;rintro e w3 ⟨rfl,b3⟩;have Fw:=AC (And.intro (HB.out.1.trans b3) (HB.out.2.later b3));clear b3)
      go_roundg (n-(j+1))
      case measure=>omega
      case rel=>exact ⟨j+1,rfl,BN,by go_num,Fw.out.1,by rw[HE.out];exact Fw.out.2⟩
     |true=>
      obtain ⟨J20,Y20⟩:=HFM fX;subst fX;have q4:(q:Int)<4000:=AD;have hlen:(D++replicate q s).length<=90000:=by rw[length_append,length_replicate];omega
      have HE:Hid (D++replicate q s++[s]=D++replicate (q+1) s):=AC (by rw[append_assoc,replicate_succ']);go_wp2_with fail;refine (HF _).mono ?_;rintro e w3 ⟨rfl,b3⟩;have e1:w3.cell? ⟨b,off+j*2+1,none⟩=some (.int .i64 s):=(b3.below.cell hbq).trans d1;have Fw:=AC (And.intro (HB.out.1.trans b3) (HB.out.2.later b3));obtain ⟨v4,w4,k1,k2,k3⟩:=io s Fw.out.2 Fw.out.1.below.size hlen;have K1:=AC k1;have Y7:=AC (And.intro (k3 w (le_refl _) Fw.out.1) k2);clear b3 k1 k2 k3 h3;go_wp2_with (at_builtin;refine Lib.wpList_append_run _ rfl _ _ _ _ rfl _ _ rfl rfl _ _ K1.out ?_)
      go_roundg (m-(q+1))
      case measure=>omega
      case rel=>exact ⟨q+1,rfl,AD,by go_num,Y7.out.1,by rw[<-HE.out];exact Y7.out.2⟩
    ·have dq:decide ((q:Int)<f)=false:=decide_eq_false hqf;have HE:Hid (AM (l.take (j+1))=D++replicate q s):=AC (by
      rw[HS.out,HD.out,ji.out]
      cases fX:fb with
      |true=>have:=(HFM fX).1;rw[show m=q by omega]
      |false=>have:=HFZ fX;rw[show m=q by omega])
     go_wp2_with fail;go_roundg (n-(j+1))
     case measure=>omega
     case rel=>exact ⟨j+1,rfl,BN,by go_num,HB.out.1,by rw[HE.out];exact HB.out.2⟩
  ·obtain rfl:j=n:=AD
   clear ha ho;go_wp2_with fail;go_ret;exact ⟨_,rfl,HA.out.1,by have:=HA.out.2;rwa [take_of_length_le (le_of_eq HL.out)]at this⟩
theorem Vo(A:Option Addr)(cap:Nat)(w:World):Calls prog 57 #[.slice A 0 cap] w (V7 w []):=by
 have H:=AC (WX w);go_enter func57,ntmps57;go_wp2_with fail;refine wp_loop_rounds 1 ?_;rw[rounds_succ];go_wp2_with fail;go_ret;exact ⟨_,rfl,BQ,H.out⟩
theorem Xi(v:Value)(l:Aa)(w:World)(h:FH w v l)(hN:CV l)(hn:l.length<=100000)(h4:(AM l).length<=4000):Calls prog 57 #[v] w (V7 w (AM l)):=by
 obtain ⟨A,cap,rfl,h2,h3⟩:=h;rcases eq_zero_or_pos l.length with h0|h0
 ·obtain rfl:=eq_nil_of_length_eq_zero h0
  exact Vo A cap w
 ·obtain ⟨b,off,rfl,hb,hc⟩:=h3 h0;exact VU b off _ cap l w rfl hn hN h4 hb hc
theorem Qj:∀(l:Aa) (j:Nat) (t:Int),(Dp l).set (j*2) (.int .i64 t)=Dp (l.modify j fun b=>(t,b.2))
 |[],j,t=>by simp[Nc]
 |b::l,0,t=>rfl
 |b::l,j+1,t=>by
  rw[Hf,show (j+1)*2=j*2+1+1 by omega,List.set_cons_succ,List.set_cons_succ,Qj l j t,List.modify_succ_cons,Hf]
theorem Ts:∀(l:List Int),∀r∈BM l,1<=r.1/\r.1<=l.length
 |[],r,hr=>by cases hr
 |s::l,r,hr=>by
  have ih:=Ts l
  change r∈Bj s (BM l) at hr
  rw[length_cons]
  cases hl:BM l with
  |nil=>
   rw[hl,G4]at hr;cases List.mem_singleton.1 hr
   exact ⟨AD,AD⟩
  |cons y q=>
   rw[hl]at hr ih;obtain ⟨k,u⟩:=y;have hy:=ih (k,u) List.mem_cons_self;simp only at hy
   rw[BV]at hr;split at hr
   ·rcases List.mem_cons.1 hr with rfl|hr
    ·exact ⟨by simp only;omega,by simp only;omega⟩
    ·have:=ih r (List.mem_cons_of_mem _ hr);exact ⟨this.1,AD⟩
   ·rcases List.mem_cons.1 hr with rfl|hr
    ·exact ⟨by simp only;omega,by simp only;omega⟩
    ·have:=ih r hr;exact ⟨this.1,AD⟩
theorem Qe{t:Int}(h:l[m]?=some (t,s))(f:Int × Int->Int × Int)(g:Int × Int->Int × Int)(hfg:f (t,s)=g (t,s)):l.modify m f=l.modify m g:=by
 apply List.ext_getElem?
 intro i;rw[List.getElem?_modify,List.getElem?_modify];by_cases e:m=i
 ·subst e;rw[h];simp[hfg]
 ·simp[e]
theorem ZC{e:TypeId}{size n cap g i:Nat}{xs:List Value}(o:w.ownsRow B e size (.slice (some ⟨g,0,none⟩) n cap) n xs)(hi:i<xs.length):(w.setCell ⟨g,i,none⟩ x).ownsRow B e size (.slice (some ⟨g,0,none⟩) n cap) n (xs.set i x):=by
 refine ⟨by rw[List.length_set];exact o.1,?_⟩;rcases o.2 with ⟨h1,_⟩|⟨g',DZ,cur,h1,h2,h3,h4,h5,h6,h7⟩
 ·cases h1
 ·obtain ⟨rfl,rfl⟩:g'=g/\DZ=cap:=by cases h1;exact ⟨rfl,rfl⟩
  refine .inr ⟨g',DZ,cur.setIfInBounds i x,rfl,h2,BI h3 rfl,h4,h5,by simpa using h6,?_⟩;rw[Array.toList_setIfInBounds,List.take_set,h7]
theorem Ge.last(o:Ge w B v l)(hn:l.length=m+1):
 ∃g cap t,v=.slice (some ⟨g,0,none⟩) (m+1) cap/\B<=g/\g<w.heap.size/\w.cell? ⟨g,m*2,none⟩=some (.int .i64 t)/\(∃s,l[m]?=some (t,s))/\w.frozen? ⟨g,m*2,none⟩=false/\
 ∀x:Int,Ge (w.setCell ⟨g,m*2,none⟩ (.int .i64 x)) B (.slice (some ⟨g,0,none⟩) (m+1) cap) (l.modify m fun b=>(x,b.2)):=by
 have o':=o;rcases o.2 with ⟨_,h0⟩|⟨g,cap,cur,rfl,h2,h3,h4,h5,h6,h7⟩
 ·omega
 ·rw[hn]at h4 h7;have hm:m<l.length:=AD;have e:cur[m*2]?=(Dp l)[m*2]?:=by
   have:(cur.toList.take ((m+1)*2))[m*2]?=(Dp l)[m*2]?:=by rw[h7]
   rw[List.getElem?_take_of_lt AD]at this;simpa using this
  refine ⟨g,cap,l[m].1,by rw[hn],h2,As h3,by rw[AE h3,e,M_,getElem?_eq_getElem hm];rfl,⟨l[m].2,by rw[getElem?_eq_getElem hm]⟩,Bq h3 _,fun x=>?_⟩;unfold Ge at o';rw[hn]at o';have o2:=ZC (x:=.int .i64 x) (i:=m*2) o' (by rw[Gp];omega);unfold Ge;rw[List.length_modify,hn,<-Qj];exact o2
theorem lA{l:List Int}(h:j+1<l.length):l.take (j+1)=l.take j++[l[j]]/\l.take (j+1+1)=l.take j++[l[j],l[j+1]]:=by
 refine ⟨List.take_succ_eq_append_getElem AD,?_⟩;rw[List.take_succ_eq_append_getElem h,List.take_succ_eq_append_getElem AD,append_assoc];rfl
theorem jR(b off n cap:Nat)(l:List Int)(w:World)(hl:l.length=n)(hn:n<=90000)(hb:b<w.heap.size)(hc:∀(j:Nat) (h:j<l.length),w.cell? ⟨b,off+j,none⟩=some (.int .i64 l[j])):
 Calls prog 42 #[.slice (some ⟨b,off,none⟩) n cap] w (JZ w (BM l)):=by
 have HL:=AC hl;have HC:=AC hc;clear hl hc;go_enter func42,ntmps42;go_wp2_with fail;go_loopg [3,4] n (fun k v i wr=>∃j:Nat,k=n-j/\j<=n/\i=.int .i64 j/\AA w wr/\Ge wr w.heap.size v (BM (l.take j)))
 case atStart=>exact ⟨0,AD,AD,rfl,(AA.refl w).alloc _,QQ w⟩
 case round=>
  obtain ⟨j,hk,hj,rfl,ha,ho⟩:=hrel;have HA:=AC (And.intro ha ho);by_cases BN:j<n
  ·have lj:j<l.length:=by rw[HL.out];exact BN
   have c0:wr.cell? ⟨b,off+j,none⟩=some (.int .i64 l[j]):=(ha.below.cell hb).trans (HC j lj);have hlen:(BM (l.take j)).length<=90000:=by have h1:=C5 (l.take j);rw[length_take]at h1;omega
   cases j with
   |zero=>
    have HE:Hid (BM (l.take 0)++[((1:Int),l[0])]=BM (l.take (0+1))):=AC (by rw[List.take_succ_eq_append_getElem lj];rfl);generalize l[0]=x at *;have c0':wr.cell? ⟨b,off,none⟩=some (.int .i64 x):=c0;clear ha ho;go_wp2_with fail
    go_quiet (fail)
    have b1:AA wr (wr.drewN nq):=(AA.refl wr).drewN nq;obtain ⟨u,w2,k1,k2,k3⟩:=Nh (1,x) (HA.out.2.later b1) (HA.out.1.trans b1).below.size hlen;have K1:=AC k1;have HB:=AC (And.intro (k3 w (le_refl _) (HA.out.1.trans b1)) k2);clear k1 k2 k3 hlen b1;go_wp2_with (at_builtin;refine Lib.wpList_append_run _ rfl _ _ _ _ rfl _ _ rfl rfl _ _ K1.out ?_)
    go_roundg (n-(0+1))
    case measure=>omega
    case rel=>exact ⟨0+1,rfl,AD,by go_num,HB.out.1,by rw[<-HE.out];exact HB.out.2⟩
   |succ i=>
    have c1:wr.cell? ⟨b,off+i,none⟩=some (.int .i64 l[i]):=(ha.below.cell hb).trans (HC i AD);obtain ⟨t1,t2⟩:=lA lj;by_cases he:l[i]=l[i+1]
    ·obtain ⟨m,h1,h2⟩:=Wb (l.take i) l[i];have HE:Hid (BM (l.take (i+1+1))=(BM (l.take (i+1))).modify m fun r=>(r.1+1,r.2)):=AC (by rw[t2,t1,<-he];exact h2);rw[<-t1]at h1;obtain ⟨g,cb,t,rfl,hB,hg,d0,⟨s,hs⟩,f0,hO⟩:=ho.last h1;have L6:=List.mem_of_getElem? hs;have iN:=Ts _ _ L6;rw[length_take]at iN;have lm:m<90001:=AD;rw[<-he]at c0;simp only at iN
     generalize l[i]=x at *;have HQ:=AC h1;clear hlen ha ho h1 h2 hO hs L6 t1 t2 he;go_wp2_with fail
     go_quiet (fail)
     have b1:AA wr (wr.drewN nq):=(AA.refl wr).drewN nq;obtain ⟨g2,cb2,t2,e2,_,_,d2,⟨s2,MI⟩,_,hO2⟩:=(HA.out.2.later b1).last HQ.out;cases e2;obtain rfl:t2=t:=by
      have d3:(wr.drewN nq).cell? ⟨g,m*2,none⟩=some (.int .i64 t):=(b1.below.cell hg).trans d0;rw[d2]at d3;cases d3;rfl
     have HW:=AC ((HA.out.1.trans b1).setCell (p:=⟨g,m*2,none⟩) hB (.int .i64 (t2+1)));have HB:Hid (Ge ((wr.drewN nq).setCell ⟨g,m*2,none⟩ (.int .i64 (t2+1))) w.heap.size (.slice (some ⟨g,0,none⟩) (m+1) cb) (BM (l.take (i+1+1)))):=AC (by
      rw[HE.out,Qe MI (fun r=>(r.1+1,r.2)) (fun b=>(t2+1,b.2)) rfl];exact hO2 (t2+1))
     clear b1 hO2 MI d2;go_wp2_with fail;go_roundg (n-(i+1+1))
     case measure=>omega
     case rel=>exact ⟨i+1+1,rfl,AD,by go_num,HW.out,HB.out⟩
    ·have HE:Hid (BM (l.take (i+1))++[(1,l[i+1])]=BM (l.take (i+1+1))):=AC (by rw[t2,t1];exact (Z4 _ _ _ he).symm);have MU:(l[i] == l[i+1])=false:=by simpa using he
     clear ha ho t1 t2;generalize l[i]=x at *;generalize l[i+1]=y at *;go_wp2_with fail
     go_quiet (fail)
     have b1:AA wr (wr.drewN nq):=(AA.refl wr).drewN nq;obtain ⟨u,w2,k1,k2,k3⟩:=Nh (1,y) (HA.out.2.later b1) (HA.out.1.trans b1).below.size hlen;have K1:=AC k1;have HB:=AC (And.intro (k3 w (le_refl _) (HA.out.1.trans b1)) k2);clear k1 k2 k3 hlen b1;go_wp2_with (at_builtin;refine Lib.wpList_append_run _ rfl _ _ _ _ rfl _ _ rfl rfl _ _ K1.out ?_)
     go_roundg (n-(i+1+1))
     case measure=>omega
     case rel=>exact ⟨i+1+1,rfl,AD,by go_num,HB.out.1,by rw[<-HE.out];exact HB.out.2⟩
  ·obtain rfl:j=n:=AD
   clear ha ho;go_wp2_with fail;go_ret;exact ⟨_,rfl,HA.out.1,by have:=HA.out.2;rwa [take_of_length_le (le_of_eq HL.out)]at this⟩
theorem gG(A:Option Addr)(cap:Nat)(w:World):Calls prog 42 #[.slice A 0 cap] w (JZ w []):=by
 have H:=AC (QQ w);go_enter func42,ntmps42;go_wp2_with fail;refine wp_loop_rounds 1 ?_;rw[rounds_succ];go_wp2_with fail;go_ret;exact ⟨_,rfl,BQ,H.out⟩
theorem Nl(v:Value)(l:List Int)(w:World)(h:RI w v l)(hn:l.length<=90000):Calls prog 42 #[v] w (JZ w (BM l)):=by
 obtain ⟨A,cap,rfl,h2,h3⟩:=h;rcases eq_zero_or_pos l.length with h0|h0
 ·obtain rfl:=eq_nil_of_length_eq_zero h0
  exact gG A cap w
 ·obtain ⟨b,off,rfl,hb,hc⟩:=h3 h0;exact jR b off _ cap l w rfl hn hb hc
theorem f_(A:Option Addr)(cap n:Nat)(w:World)(hn:n<=4000)(hv:RI w (.slice A 0 cap) []):Calls prog 100 #[.slice A 0 cap,.int .i64 0,.int .i64 n] w (V7 w (I5 [] 0 n)):=by
 obtain ⟨l,hl⟩:∃l:List Int,l=[]:=⟨_,rfl⟩;obtain ⟨a,tj⟩:∃a:Nat,a=0:=⟨_,rfl⟩;have ha:a<=l.length:=AD;have hl4:l.length<=4000:=by rw[hl];simp
 have hv:RI w (.slice A 0 cap) l:=by rw[hl];exact hv
 have e0:I5 [] 0 (n:Int)=I5 l (a:Int) (n:Int):=by rw[hl,tj];rfl
 rw[e0];clear e0;obtain ⟨x,hx⟩:=BZ (DF l (a:Int));have HZ:Hid (l.take a++replicate n x++l.drop a=I5 l (a:Int) (n:Int)):=AC (by unfold I5;rw[hx,Int.toNat_natCast,Int.toNat_natCast]);obtain ⟨u,hu,hcut⟩:=hv.mK a ha;obtain ⟨A1,c1,qI,pU⟩:=hv.Z1 a ha;obtain ⟨u2,w2,k1,k2,k3⟩:=Zq qI (by rw[length_take];omega);have K1:=AC k1;have HB:=AC (And.intro k2 k3);have ZS:=AC hu;clear k1 k2 k3 hu qI;have hx0:x=0:=by rw[<-hx,hl];rfl
 subst hx0;subst tj;have hcut:∀w',(Instr.sliceAt 42 (.slice A 0 cap) (some (.int .i64 0)) none none).run prog w'=.ok u w':=fun w'=>hcut w'
 have pU:∀w',(Instr.sliceAt 42 (.slice A 0 cap) none (some (.int .i64 0)) none).run prog w'=.ok (.slice A1 0 c1) w':=fun w'=>pU w'
 clear hx hl;go_enter func100,ntmps100;go_wp2_with (at_builtin;refine Lib.wpList_append_run _ rfl _ _ _ _ rfl _ _ rfl rfl _ _ K1.out ?_)
 go_loopg [8,9] n (fun k v ii wr=>∃j:Nat,k=n-j/\j<=n/\ii=.int .i64 j/\AA w wr/\OI wr w.heap.size v (l.take 0++replicate j (0:Int)))
 case atStart=>exact ⟨0,AD,AD,rfl,HB.out.1,by simpa using HB.out.2⟩
 case round=>
  obtain ⟨j,hk,hj,rfl,ha,ho⟩:=hrel;have hlen:(l.take 0++replicate j (0:Int)).length<=90000:=by rw[length_append,length_replicate,length_take];omega
  by_cases BN:j<n
  ·have h4:(j:Int)<4000:=AD;obtain ⟨u3,w3,k1,k2,k3⟩:=io 0 ho ha.below.size hlen;have K3:=AC k1;have HE:Hid (l.take 0++replicate j (0:Int)++[(0:Int)]=l.take 0++replicate (j+1) (0:Int)):=AC (by rw[append_assoc,replicate_succ']);have Fw:=AC (And.intro (k3 w (le_refl _) ha) k2);clear k1 k2 k3 hlen ha ho;go_wp2_with (at_builtin;refine Lib.wpList_append_run _ rfl _ _ _ _ rfl _ _ rfl rfl _ _ K3.out ?_)
   go_roundg (n-(j+1))
   case measure=>omega
   case rel=>exact ⟨j+1,rfl,AD,by go_num,Fw.out.1,by rw[<-HE.out];exact Fw.out.2⟩
  ·obtain rfl:j=n:=AD
   obtain ⟨u3,w3,k1,k2,k3⟩:=RL (s:=42) underlying42 FZ (by decide) ho (ZS.out.later ha) ha.below.size (by rw[length_drop];omega);have K3:=AC k1;have Fw:=AC (And.intro (ON.grown ho (le_refl _) ha k3) k2);clear k1 k2 k3 hlen ha ho;go_wp2_with (at_builtin;refine Lib.wpList_append_run _ rfl _ _ _ _ rfl _ _ rfl rfl _ _ K3.out ?_)
   go_ret;exact ⟨_,rfl,Fw.out.1,by rw[<-HZ.out];exact Fw.out.2⟩
theorem lI(b off m cap n:Nat)(l:List Int)(w:World)(hl:l.length=m)(hm:0<m)(hl4:m<=4000)(hn:n<=4000)(hv:RI w (.slice (some ⟨b,off,none⟩) m cap) l)(hb:b<w.heap.size)(hc:∀(j:Nat) (h:j<l.length),w.cell? ⟨b,off+j,none⟩=some (.int .i64 l[j])):Calls prog 100 #[.slice (some ⟨b,off,none⟩) m cap,.int .i64 0,.int .i64 n] w (V7 w (I5 l 0 n)):=by
 obtain ⟨a,tj⟩:∃a:Nat,a=0:=⟨_,rfl⟩;have ha:a<=l.length:=AD;have c0:w.cell? ⟨b,off,none⟩=some (.int .i64 (DF l (a:Int))):=by
  have:=hc 0 AD
  rw[Nat.add_zero]at this;have e:DF l ((0:Nat):Int)=l[0]:=by
   unfold DF;have e:(((0:Nat):Int)-1).toNat=0:=AD;rw[e,List.getD_eq_getElem?_getD,getElem?_eq_getElem AD];rfl
  rw[this,tj,e]
 have e0:I5 l 0 (n:Int)=I5 l (a:Int) (n:Int):=by rw[tj];rfl
 rw[e0];clear e0;obtain ⟨x,hx⟩:=BZ (DF l (a:Int));have HZ:Hid (l.take a++replicate n x++l.drop a=I5 l (a:Int) (n:Int)):=AC (by unfold I5;rw[hx,Int.toNat_natCast,Int.toNat_natCast]);obtain ⟨u,hu,hcut⟩:=hv.mK a ha;obtain ⟨A1,c1,qI,pU⟩:=hv.Z1 a ha;obtain ⟨u2,w2,k1,k2,k3⟩:=Zq qI (by rw[length_take];omega);have K1:=AC k1;have HB:=AC (And.intro k2 k3);have ZS:=AC hu;clear k1 k2 k3 hu qI;rw[hx]at c0;subst tj;have hcut:∀w',(Instr.sliceAt 42 (.slice (some ⟨b,off,none⟩) m cap) (some (.int .i64 0)) none none).run prog w'=.ok u w':=fun w'=>hcut w'
 have pU:∀w',(Instr.sliceAt 42 (.slice (some ⟨b,off,none⟩) m cap) none (some (.int .i64 0)) none).run prog w'=.ok (.slice A1 0 c1) w':=fun w'=>pU w'
 clear hx hc hv;go_enter func100,ntmps100;go_wp2_with (at_builtin;refine Lib.wpList_append_run _ rfl _ _ _ _ rfl _ _ rfl rfl _ _ K1.out ?_)
 go_loopg [8,9] n (fun k v ii wr=>∃j:Nat,k=n-j/\j<=n/\ii=.int .i64 j/\AA w wr/\OI wr w.heap.size v (l.take 0++replicate j x))
 case atStart=>exact ⟨0,AD,AD,rfl,HB.out.1,by simpa using HB.out.2⟩
 case round=>
  obtain ⟨j,hk,hj,rfl,ha,ho⟩:=hrel;have hlen:(l.take 0++replicate j x).length<=90000:=by rw[length_append,length_replicate,length_take];omega
  by_cases BN:j<n
  ·have h4:(j:Int)<4000:=AD;obtain ⟨u3,w3,k1,k2,k3⟩:=io x ho ha.below.size hlen;have K3:=AC k1;have HE:Hid (l.take 0++replicate j x++[x]=l.take 0++replicate (j+1) x):=AC (by rw[append_assoc,replicate_succ']);have Fw:=AC (And.intro (k3 w (le_refl _) ha) k2);clear k1 k2 k3 hlen ha ho;go_wp2_with (at_builtin;refine Lib.wpList_append_run _ rfl _ _ _ _ rfl _ _ rfl rfl _ _ K3.out ?_)
   go_roundg (n-(j+1))
   case measure=>omega
   case rel=>exact ⟨j+1,rfl,AD,by go_num,Fw.out.1,by rw[<-HE.out];exact Fw.out.2⟩
  ·obtain rfl:j=n:=AD
   obtain ⟨u3,w3,k1,k2,k3⟩:=RL (s:=42) underlying42 FZ (by decide) ho (ZS.out.later ha) ha.below.size (by rw[length_drop];omega);have K3:=AC k1;have Fw:=AC (And.intro (ON.grown ho (le_refl _) ha k3) k2);clear k1 k2 k3 hlen ha ho;go_wp2_with (at_builtin;refine Lib.wpList_append_run _ rfl _ _ _ _ rfl _ _ rfl rfl _ _ K3.out ?_)
   go_ret;exact ⟨_,rfl,Fw.out.1,by rw[<-HZ.out];exact Fw.out.2⟩
theorem gB(b off m cap n i:Nat)(l:List Int)(w:World)(hl:l.length=m)(hi:i+1<=m)(hl4:m<=4000)(hn:n<=4000)(hv:RI w (.slice (some ⟨b,off,none⟩) m cap) l)(hb:b<w.heap.size)(hc:∀(j:Nat) (h:j<l.length),w.cell? ⟨b,off+j,none⟩=some (.int .i64 l[j])):Calls prog 100 #[.slice (some ⟨b,off,none⟩) m cap,.int .i64 ((i:Int)+1),.int .i64 n] w (V7 w (I5 l ((i:Int)+1) n)):=by
 have c0:=hc 0 AD;rw[Nat.add_zero]at c0;have c1:w.cell? ⟨b,off+i,none⟩=some (.int .i64 (DF l ((i+1:Nat):Int))):=by
  have e:DF l ((i+1:Nat):Int)=l[i]:=by
   unfold DF;have e:(((i+1:Nat):Int)-1).toNat=i:=AD;rw[e,List.getD_eq_getElem?_getD,getElem?_eq_getElem AD];rfl
  rw[hc i AD,e]
 have e0:I5 l ((i:Int)+1) (n:Int)=I5 l ((i+1:Nat):Int) (n:Int):=rfl;rw[e0];clear e0;have ha:i+1<=l.length:=AD;obtain ⟨x,hx⟩:=BZ (DF l ((i+1:Nat):Int));have HZ:Hid (l.take (i+1)++replicate n x++l.drop (i+1)=I5 l ((i+1:Nat):Int) (n:Int)):=AC (by unfold I5;rw[hx,Int.toNat_natCast,Int.toNat_natCast]);obtain ⟨u,hu,hcut⟩:=hv.mK (i+1) ha;obtain ⟨A1,cq,qI,pU⟩:=hv.Z1 (i+1) ha;obtain ⟨u2,w2,k1,k2,k3⟩:=Zq qI (by rw[length_take];omega);have K1:=AC k1;have HB:=AC (And.intro k2 k3);have ZS:=AC hu;clear k1 k2 k3 hu qI;rw[hx]at c1;have hcut:∀w',(Instr.sliceAt 42 (.slice (some ⟨b,off,none⟩) m cap) (some (.int .i64 ((i:Int)+1))) none none).run prog w'=.ok u w':=fun w'=>hcut w'
 have pU:∀w',(Instr.sliceAt 42 (.slice (some ⟨b,off,none⟩) m cap) none (some (.int .i64 ((i:Int)+1))) none).run prog w'=.ok (.slice A1 (i+1) cq) w':=fun w'=>pU w'
 clear hx hc hv;go_enter func100,ntmps100;go_wp2_with (at_builtin;refine Lib.wpList_append_run _ rfl _ _ _ _ rfl _ _ rfl rfl _ _ K1.out ?_)
 go_loopg [8,9] n (fun k v ii wr=>∃j:Nat,k=n-j/\j<=n/\ii=.int .i64 j/\AA w wr/\OI wr w.heap.size v (l.take (i+1)++replicate j x))
 case atStart=>exact ⟨0,AD,AD,rfl,HB.out.1,by simpa using HB.out.2⟩
 case round=>
  obtain ⟨j,hk,hj,rfl,ha,ho⟩:=hrel;have hlen:(l.take (i+1)++replicate j x).length<=90000:=by rw[length_append,length_replicate,length_take];omega
  by_cases BN:j<n
  ·have h4:(j:Int)<4000:=AD;obtain ⟨u3,w3,k1,k2,k3⟩:=io x ho ha.below.size hlen;have K3:=AC k1;have HE:Hid (l.take (i+1)++replicate j x++[x]=l.take (i+1)++replicate (j+1) x):=AC (by rw[append_assoc,replicate_succ']);have Fw:=AC (And.intro (k3 w (le_refl _) ha) k2);clear k1 k2 k3 hlen ha ho;go_wp2_with (at_builtin;refine Lib.wpList_append_run _ rfl _ _ _ _ rfl _ _ rfl rfl _ _ K3.out ?_)
   go_roundg (n-(j+1))
   case measure=>omega
   case rel=>exact ⟨j+1,rfl,AD,by go_num,Fw.out.1,by rw[<-HE.out];exact Fw.out.2⟩
  ·obtain rfl:j=n:=AD
   obtain ⟨u3,w3,k1,k2,k3⟩:=RL (s:=42) underlying42 FZ (by decide) ho (ZS.out.later ha) ha.below.size (by rw[length_drop];omega);have K3:=AC k1;have Fw:=AC (And.intro (ON.grown ho (le_refl _) ha k3) k2);clear k1 k2 k3 hlen ha ho;go_wp2_with (at_builtin;refine Lib.wpList_append_run _ rfl _ _ _ _ rfl _ _ rfl rfl _ _ K3.out ?_)
   go_ret;exact ⟨_,rfl,Fw.out.1,by rw[<-HZ.out];exact Fw.out.2⟩
theorem YE(v:Value)(l:List Int)(a n:Nat)(w:World)(hv:RI w v l)(ha:a<=l.length)(hl:l.length<=4000)(hn:n<=4000):Calls prog 100 #[v,.int .i64 a,.int .i64 n] w (V7 w (I5 l a n)):=by
 obtain ⟨A,cap,rfl,h2,h3⟩:=hv;rcases eq_zero_or_pos l.length with h0|h0
 ·obtain rfl:=eq_nil_of_length_eq_zero h0
  have:a=0:=AD
  subst this;exact f_ A cap n w hn ⟨A,cap,rfl,h2,h3⟩
 ·obtain ⟨b,off,rfl,hb,hc⟩:=h3 h0
  cases a with
  |zero=>exact lI b off _ cap n l w rfl h0 hl hn ⟨_,cap,rfl,h2,h3⟩ hb hc
  |succ i=>exact gB b off _ cap n i l w rfl ha hl hn ⟨_,cap,rfl,h2,h3⟩ hb hc
def Mc(w:World)(v:Value)(l:Aa):Prop:=FH w v l/\∀b,vblk v=some b->∃cs,w.heap[b]?=some (.cells cs 76)
theorem Mc.later(h:Mc w v l)(ha:AA w w'):Mc w' v l:=⟨h.1.later ha,fun b hb=>by
 obtain ⟨cs,FS⟩:=h.2 b hb;exact ⟨cs,AB ha FS⟩⟩
theorem Ge.typed(h:Ge w B v l):Mc w v l:=⟨h.reads,fun b hb=>by
 rcases h.2 with ⟨rfl,_⟩|⟨g,cap,cur,rfl,h2,h3,_⟩
 ·cases hb
 ·cases hb;exact ⟨cur,h3⟩⟩
def Xf(W:World)(m:Aa)(e:Ending)(w':World):Prop:=∃u,e=.returned u/\AA W w'/\Mc w' u m
def Fl(W:World)(m:Aa)(c:Int)(e:Ending)(w':World):Prop:=∃u,e=.returned (.tuple #[u,.int .i64 c])/\AA W w'/\Mc w' u m
def Cf(w:World)(v:Value)(l:Aa):Prop:=Mc w v l/\CV l/\l.length<=40000
structure xS:Prop where
 MS:∀{w:World} {v:Value} (l:Aa) (c:Bool),decide (Cn l=l)=c->Cf w v l->Calls prog 64 #[v] w fun e w'=>e=.returned (.bool c)/\AA w w'
 tidy:∀{w:World} {v:Value} (l m:Aa),Cn l=m->Cf w v l->Calls prog 35 #[v] w (Xf w m)
 len:∀{w:World} {v:Value} (l:Aa) (n:Nat),(sR l).length=n->Cf w v l->Calls prog 65 #[v] w fun e w'=>e=.returned (.int .i64 (n:Int))/\AA w w'
 R5:∀{w:World} {v:Value} (l:Aa) (i c:Int),uB l i=c->Cf w v l->BO i->Calls prog 171 #[v,.int .i64 i] w fun e w'=>e=.returned (.int .i64 c)/\AA w w'
 set:∀{w:World} {v:Value} (l m:Aa) (f t s c:Int),Y_ l f t s=(m,c)->Cf w v l->BO f->BO t->BO s->Calls prog 84 #[v,.int .i64 f,.int .i64 t,.int .i64 s] w (Fl w m c)
 ins:∀{w:World} {v:Value} (l m:Aa) (a n c:Int),lH l a n=(m,c)->Cf w v l->BO a->BO n->Calls prog 123 #[v,.int .i64 a,.int .i64 n] w (Fl w m c)
 del:∀{w:World} {v:Value} (l m:Aa) (a n c:Int),gT l a n=(m,c)->Cf w v l->BO a->BO n->Calls prog 122 #[v,.int .i64 a,.int .i64 n] w (Fl w m c)
 part:∀{w:World} {v:Value} (l m:Aa) (f t:Int),Em l f t=m->Cf w v l->BO f->BO t->Calls prog 128 #[v,.int .i64 f,.int .i64 t] w (Xf w m)
theorem Cf.later(h:Cf w v l)(ha:AA w w'):Cf w' v l:=⟨h.1.later ha,h.2⟩
theorem Ha(h:BL s=true):BO s:=by have:=Hn h;constructor <;> omega
theorem UO{l:List Int}(h:∀s∈l,BL s=true)(hl:l.length<=16777216):CV (BM l):=fun r hr=>by
 have:=Hv h r hr
 exact ⟨by constructor <;> omega,Ha this.2.2⟩
theorem JB(s:Int)(w:World)(c:Bool)(hc:BL s=c):Calls prog 126 #[.int .i64 s] w fun e w'=>e=.returned (.bool c)/\w=w':=by
 subst hc;by_cases h1:0<=s
 ·by_cases h2:s<=23
  ·have Q:Hid (BL s=true):=AC (by unfold BL;simp;omega);go_enter func126,ntmps126
   go_wp2
   go_ret;exact ⟨Am (by rw[Q.out]),rfl⟩
  ·have Q:Hid (BL s=false):=AC (by unfold BL;simp;omega);go_enter func126,ntmps126
   go_wp2
   go_ret;exact ⟨Am (by rw[Q.out]),rfl⟩
 ·have Q:Hid (BL s=false):=AC (by unfold BL;simp;omega);go_enter func126,ntmps126
  go_wp2
  go_ret;exact ⟨Am (by rw[Q.out]),rfl⟩
theorem CZ{a b:Int}(h:a=b):Ending.returned (.int .i64 a)=.returned (.int .i64 b):=by rw[h]
def Cm(n low high:Int):Int:=if n<low\/high<low then low else if high<n then high else n
theorem F0(n low high:Int)(w:World)(c:Int)(hc:Cm n low high=c):
 Calls prog 89 #[.int .i64 n,.int .i64 low,.int .i64 high] w fun e w'=>e=.returned (.int .i64 c)/\w=w':=by
 subst hc;by_cases h1:n<low
 ·have Q:Hid (low=Cm n low high):=AC (by unfold Cm;rw[if_pos (.inl h1)]);go_enter func89,ntmps89
  go_wp2
  go_ret;exact ⟨CZ Q.out,rfl⟩
 ·by_cases h2:high<low
  ·have Q:Hid (low=Cm n low high):=AC (by unfold Cm;rw[if_pos (.inr h2)]);go_enter func89,ntmps89
   go_wp2
   go_ret;exact ⟨CZ Q.out,rfl⟩
  ·by_cases h3:high<n
   ·have Q:Hid (high=Cm n low high):=AC (by unfold Cm;rw[if_neg AD,if_pos h3]);go_enter func89,ntmps89
    go_wp2
    go_ret;exact ⟨CZ Q.out,rfl⟩
   ·have Q:Hid (n=Cm n low high):=AC (by unfold Cm;rw[if_neg AD,if_neg h3]);go_enter func89,ntmps89
    go_wp2
    go_ret;exact ⟨CZ Q.out,rfl⟩
def PG(a n all:Int):Prop:=0<=a/\a<=all/\0<=n/\n<=all-a
theorem cI(a n all:Int)(w:World)(h:PG a n all)(ha:all<=16777216):
 Calls prog 78 #[.int .i64 a,.int .i64 n,.int .i64 all] w fun e w'=>e=.returned (.tuple #[.int .i64 a,.int .i64 (a+n),.bool true])/\w=w':=by
 obtain ⟨h1,h2,h3,h4⟩:=h;go_enter func78,ntmps78
 go_wp2
 refine bodyPost_ret (v:=.tuple #[.int .i64 a,.int .i64 (a+n),.bool true]) (by simp[results,results78,go_sem]) rfl ?_;exact ⟨rfl,rfl⟩
theorem kH(a n all:Int)(w:World)(h:¬PG a n all)(ha:all<=16777216)(h0:0<=all):
 Calls prog 78 #[.int .i64 a,.int .i64 n,.int .i64 all] w fun e w'=>e=.returned (.tuple #[.int .i64 0,.int .i64 0,.bool false])/\w=w':=by
 by_cases h1:a<0
 ·clear h;go_enter func78,ntmps78
  go_wp2
  refine bodyPost_ret (v:=.tuple #[.int .i64 0,.int .i64 0,.bool false]) (by simp[results,results78,go_sem]) rfl ?_;exact ⟨rfl,rfl⟩
 ·by_cases h2:all<a
  ·clear h;go_enter func78,ntmps78
   go_wp2
   refine bodyPost_ret (v:=.tuple #[.int .i64 0,.int .i64 0,.bool false]) (by simp[results,results78,go_sem]) rfl ?_;exact ⟨rfl,rfl⟩
  ·by_cases h3:n<0
   ·clear h;go_enter func78,ntmps78
    go_wp2
    refine bodyPost_ret (v:=.tuple #[.int .i64 0,.int .i64 0,.bool false]) (by simp[results,results78,go_sem]) rfl ?_;exact ⟨rfl,rfl⟩
   ·have h4:all-a<n:=by unfold PG at h;omega
    clear h;go_enter func78,ntmps78
    go_wp2
    refine bodyPost_ret (v:=.tuple #[.int .i64 0,.int .i64 0,.bool false]) (by simp[results,results78,go_sem]) rfl ?_;exact ⟨rfl,rfl⟩
theorem GR(n s:Int)(w:World)(c:Bool)(hc:CY (n,s)=c)(hn:BO n)(hs:BO s):Calls prog 88 #[.agg #[.int .i64 n,.int .i64 s]] w fun e w'=>e=.returned (.bool c)/\AA w w':=by
 have hc:=N5 n s c hc;have HG:=AC (fun w=>JB s w _ rfl);have HC:=AC hc;generalize BL s=g at *;obtain ⟨n1,n2⟩:=hn;obtain ⟨s1,s2⟩:=hs;clear hc;by_cases q1:1<=n
 ·by_cases q2:n<=16777216
  ·have Hw:Hid (g=c):=AC (by rw[<-HC.out];simp[q1,q2]);go_enter func88,ntmps88;go_wp2_with (go_at_call 126;refine (HG _).mono ?_;rintro e w' ⟨rfl,rfl⟩)
   go_ret;exact ⟨Am Hw.out,BQ⟩
  ·have Hw:Hid (false=c):=AC (by rw[<-HC.out];simp[q2]);go_enter func88,ntmps88;go_wp2_with fail;go_ret;exact ⟨Am Hw.out,BQ⟩
 ·have Hw:Hid (false=c):=AC (by rw[<-HC.out];simp[q1]);go_enter func88,ntmps88;go_wp2_with fail;go_ret;exact ⟨Am Hw.out,BQ⟩
def Eh:Aa->Int × Int->Aa
 |[],p=>[p]
 |[q],p=>if q.2=p.2 then [(q.1+p.1,q.2)] else [q,p]
 |q::r::l,p=>q::Eh (r::l) p
theorem Zf(x:Int)(p:Int × Int):∀m:Aa,Bj x (Eh m p)=Eh (Bj x m) p
 |[]=>by
  obtain ⟨n,t⟩:=p;show Bj x [(n,t)]=Eh [(1,x)] (n,t)
  rw[BV];unfold Eh;by_cases h:t=x
  ·rw[if_pos h,if_pos (by exact h.symm),Int.add_comm,h]
  ·rw[if_neg h,if_neg (by exact fun e=>h e.symm)]
 |[q]=>by
  obtain ⟨k,u⟩:=q;obtain ⟨n,t⟩:=p;rw[BV];by_cases h:u=t
  ·subst h;by_cases h2:u=x
   ·subst h2;simp[Eh,Bj,Int.add_right_comm]
   ·simp[Eh,Bj,h2]
  ·by_cases h2:u=x
   ·subst h2;simp[Eh,Bj,h]
   ·simp[Eh,Bj,h,h2]
 |(k,u)::r::l=>by
  show Bj x ((k,u)::Eh (r::l) p)=_
  rw[BV,BV];by_cases h:u=x
  ·rw[if_pos h,if_pos h];rfl
  ·rw[if_neg h,if_neg h];rfl
theorem U_(s:Int):∀n:Nat,BM (replicate (n+1) s)=[(((n+1:Nat):Int),s)]
 |0=>rfl
 |n+1=>by
  rw[List.replicate_succ];show Bj s (BM (replicate (n+1) s))=_
  rw[U_ s n,BV,if_pos rfl];rfl
theorem Tz(s:Int)(n:Nat):∀A:List Int,BM (A++replicate (n+1) s)=Eh (BM A) (((n+1:Nat):Int),s)
 |[]=>U_ s n
 |x::A=>by
  show Bj x (BM (A++replicate (n+1) s))=Eh (Bj x (BM A)) _
  rw[Tz s n A,Zf]
theorem Wd(p:Int × Int):∀m:Aa,(Eh m p).length<=m.length+1
 |[]=>le_refl 1
 |[q]=>by unfold Eh;split <;> simp
 |q::r::l=>by
  have:=Wd p (r::l)
  show (Eh (r::l) p).length+1<=(r::l).length+1+1
  omega
theorem Wh(p:Int × Int):∀m:Aa,(∀q,m.getLast? =some q->q.2≠p.2)->Eh m p=m++[p]
 |[],_=>rfl
 |[q],h=>by unfold Eh;rw[if_neg (h q rfl)];rfl
 |q::r::l,h=>by
  show q::Eh (r::l) p=q::((r::l)++[p])
  rw[Wh p (r::l) (fun x hx=>h x (by rw[List.getLast?_cons_cons];exact hx))]
theorem R_(n s t:Int):∀(k:Nat) (m:Aa),m.length=k+1->m[k]?=some (t,s)->Eh m (n,s)=m.modify k fun b=>(t+n,b.2)
 |0,[q],_,h=>by
  cases h;simp[Eh]
 |k+1,q::r::l,hl,h=>by
  show q::Eh (r::l) (n,s)=_
  rw[R_ n s t k (r::l) (by simpa using hl) (by simpa using h),List.modify_succ_cons]
 |0,q::r::l,hl,_=>by simp at hl
 |k+1,[q],hl,_=>by simp at hl
theorem Uw(h:CY (n,s)=true):DY (n,s)=replicate ((n-1).toNat+1) s/\(((n-1).toNat+1:Nat):Int)=n:=by
 obtain ⟨h1,h2,_⟩:=Cz h;simp only at h1 h2
 have e:n.toNat=(n-1).toNat+1:=AD;refine ⟨?_,AD⟩;unfold DY;rw[if_pos h];show replicate n.toNat s=_
 rw[e]
theorem Tj(h:CY (n,s)=false):DY (n,s)=[]:=by
 unfold DY;rw[h];rfl
theorem VQ{D:List Int}(h:CY (n,s)=true):BM (D++DY (n,s))=Eh (BM D) (n,s):=by
 obtain ⟨h1,h2⟩:=Uw h;rw[h1,Tz,h2]
theorem KX(l:Aa):∀j,j<=l.length->(BM (AM (l.take j))).length<=j
 |0,_=>by simp[AM,BM]
 |j+1,hj=>by
  have ih:=KX l j AD;rw[Dn (show j<l.length by omega)];obtain ⟨n,s⟩:=l[j]
  cases h:CY (n,s) with
  |true=>rw[VQ h];have:=Wd (n,s) (BM (AM (l.take j)));omega
  |false=>rw[Tj h,List.append_nil];omega
theorem lq(l:Aa):(Cn l).length<=l.length:=by
 unfold Cn sR;split
 ·have:=KX l l.length (le_refl _);rwa [take_of_length_le (le_refl _)]at this
 ·exact Nat.zero_le _
theorem Eb{w1:World}{y:Value}{t:TypeId}(h:AA (w.alloc (.cells #[x,y] t)) w1):w1.cell? ⟨w.heap.size,0,none⟩=some x/\w1.cell? ⟨w.heap.size,1,none⟩=some y:=by
 have h3:(w.alloc (.cells #[x,y] t)).heap[w.heap.size]?=some (.cells #[x,y] t):=Ae rfl;exact ⟨(h.below.cell (As h3)).trans (by rw[AE h3];rfl),(h.below.cell (As h3)).trans (by rw[AE h3];rfl)⟩
theorem pE(h:16777216<(AM (l.take j)).length):sR l=[]:=by
 unfold sR;rw[if_neg (by have:=I8 l j;omega)]
theorem LP(b off n cap:Nat)(l:Aa)(w:World)(c:Nat)(Eu:(sR l).length=c)(hl:l.length=n)(hn:n<=90000)(hN:CV l)(hb:b<w.heap.size)(hc:∀(j:Nat) (h:j<l.length),w.cell? ⟨b,off+j*2,none⟩=some (.int .i64 l[j].1)/\w.cell? ⟨b,off+j*2+1,none⟩=some (.int .i64 l[j].2)):
 Calls prog 65 #[.slice (some ⟨b,off,none⟩) n cap] w fun e w'=>e=.returned (.int .i64 (c:Int))/\AA w w':=by
 have HL:=AC hl;have HC:=AC hc;have Kk:=AC Eu;have J3:=AC hN;clear hl hc Eu hN;go_enter func65,ntmps65;go_wp2_with fail;go_loopg [3,8] n (fun k s i wr=>AA w wr/\∃j:Nat,k=n-j/\j<=n/\i=.int .i64 j/\∃t:Nat,s=.int .i64 t/\(AM (l.take j)).length=t/\t<=16777216)
 case atStart=>exact ⟨AA.refl _,0,AD,AD,rfl,0,rfl,rfl,AD⟩
 case round=>
  obtain ⟨AW,j,hk,hj,rfl,t,rfl,ht,nt⟩:=hrel;have HT:=AC ht;have HA:=AC AW;clear ht;by_cases BN:j<n
  ·have lj:j<l.length:=by rw[HL.out];exact BN
   have c0:wr.cell? ⟨b,off+j*2,none⟩=some (.int .i64 l[j].1):=(AW.below.cell hb).trans (HC j lj).1;have c1:wr.cell? ⟨b,off+j*2+1,none⟩=some (.int .i64 l[j].2):=(AW.below.cell hb).trans (HC j lj).2;have HS:=AC (Dn lj);have hx:=J3 l[j] (getElem_mem lj);have HO:Hid (((DY l[j]).length:Int)=if CY l[j] then l[j].1 else 0):=AC FG;generalize l[j]=x at *;obtain ⟨f,s⟩:=x;simp only at c0 c1 hx HO
   cases hf:CY (f,s) with
   |true=>
    have HF:=AC (fun w=>GR f s w true hf hx.1 hx.2);obtain ⟨f1,f2,_⟩:=Cz hf;simp only at f1 f2
    have N9:Hid (((DY (f,s)).length:Int)=f):=AC (by rw[HO.out,hf];rfl);clear hf hx HO;have LY:=AC (AW.alloc (.cells #[.int .i64 f,.int .i64 s] 76));clear AW;by_cases hg:16777216<(t:Int)+f
    ·have HZ:Hid (c=0):=AC (by
      rw[<-Kk.out,pE (j:=j+1) (by rw[HS.out,length_append,HT.out];have:=N9.out;omega)];rfl)
     go_wp2_with (go_at_call 88;refine (HF _).mono ?_;rintro e w1 ⟨rfl,b1⟩;obtain ⟨e0,e1⟩:=Eb b1;have Ej:=AC (LY.out.trans b1);clear b1)
     go_ret;exact ⟨CZ (by rw[HZ.out];rfl),Ej.out⟩
    ·have hgf:decide (16777216<(t:Int)+f)=false:=decide_eq_false hg;go_wp2_with (go_at_call 88;refine (HF _).mono ?_;rintro e w1 ⟨rfl,b1⟩;obtain ⟨e0,e1⟩:=Eb b1;have Ej:=AC (LY.out.trans b1);clear b1)
     go_roundg (n-(j+1))
     case measure=>omega
     case rel=>exact ⟨Ej.out,j+1,rfl,BN,by go_num,t+f.toNat,by go_num,by rw[HS.out,length_append,HT.out];have:=N9.out;omega,AD⟩
   |false=>
    have HF:=AC (fun w=>GR f s w false hf hx.1 hx.2);have N9:Hid (((DY (f,s)).length:Int)=0):=AC (by rw[HO.out,hf];rfl);clear hf hx HO;have LY:=AC (AW.alloc (.cells #[.int .i64 f,.int .i64 s] 76));clear AW;go_wp2_with (go_at_call 88;refine (HF _).mono ?_;rintro e w1 ⟨rfl,b1⟩;have Ej:=AC (LY.out.trans b1);clear b1)
    go_roundg (n-(j+1))
    case measure=>omega
    case rel=>exact ⟨Ej.out,j+1,rfl,BN,by go_num,t,rfl,by rw[HS.out,length_append,HT.out];have:=N9.out;omega,nt⟩
  ·obtain rfl:j=n:=AD
   have HZ:Hid (t=c):=AC (by
    rw[<-Kk.out];have:=HT.out
    rw[take_of_length_le (le_of_eq HL.out)]at this;rw[GY (by rw[this];exact nt),this])
   clear AW;go_wp2_with fail;go_ret;exact ⟨CZ (by rw[HZ.out]),HA.out⟩
theorem SE(A:Option Addr)(cap:Nat)(w:World):Calls prog 65 #[.slice A 0 cap] w fun e w'=>e=.returned (.int .i64 0)/\w=w':=by
 go_enter func65,ntmps65;go_wp2_with fail;refine wp_loop_rounds 1 ?_;rw[rounds_succ];go_wp2_with fail;go_ret;exact ⟨rfl,rfl⟩
theorem EE(v:Value)(l:Aa)(w:World)(c:Nat)(hc:(sR l).length=c)(h:FH w v l)(hN:CV l)(hn:l.length<=90000):Calls prog 65 #[v] w fun e w'=>e=.returned (.int .i64 (c:Int))/\AA w w':=by
 obtain ⟨A,cap,rfl,h2,h3⟩:=h;rcases eq_zero_or_pos l.length with h0|h0
 ·obtain rfl:=eq_nil_of_length_eq_zero h0
  obtain rfl:0=c:=by rw[<-hc];rfl
  exact DT (SE A cap w)
 ·obtain ⟨b,off,rfl,hb,Eu⟩:=h3 h0;exact LP b off _ cap l w c hc rfl hn hN hb Eu
theorem IL(w:World)(B:Nat):Ge w B (.slice none 0 0) []:=⟨rfl,.inl ⟨rfl,rfl⟩⟩
theorem Ge.am(o:Ge w B v l)(hn:l.length=m+1):
 ∃g cap t s,v=.slice (some ⟨g,0,none⟩) (m+1) cap/\B<=g/\g<w.heap.size/\w.cell? ⟨g,m*2,none⟩=some (.int .i64 t)/\w.cell? ⟨g,m*2+1,none⟩=some (.int .i64 s)/\l[m]?=some (t,s)/\w.frozen? ⟨g,m*2,none⟩=false/\
 ∀x:Int,Ge (w.setCell ⟨g,m*2,none⟩ (.int .i64 x)) B (.slice (some ⟨g,0,none⟩) (m+1) cap) (l.modify m fun b=>(x,b.2)):=by
 obtain ⟨g,cap,t,rfl,h1,h2,h3,⟨s,h4⟩,h5,h6⟩:=o.last hn;obtain ⟨A,c2,e,k1,k2⟩:=o.reads;obtain ⟨b,off,e2,hb,hc⟩:=k2 AD;rw[hn]at e;cases e;cases e2;have hm:m<l.length:=AD;have e4:l[m]=(t,s):=by rw[getElem?_eq_getElem hm]at h4;exact Option.some.inj h4
 have q:=(hc m hm).2;rw[Nat.zero_add,e4]at q;exact ⟨g,cap,t,s,rfl,h1,h2,h3,q,h4,h5,h6⟩
theorem Xg{q:Int × Int}(hn:l.length=m+1)(h:l[m]?=some q):l.getLast? =some q:=by
 rw[List.getLast?_eq_getElem?,hn];exact h
theorem Yf(b off n cap c:Nat)(l:Aa)(w:World)(Eu:(sR l).length=c)(hc0:c≠0)(hl:l.length=n)(hn:n<=90000)(hN:CV l)(hb:b<w.heap.size)(hc:∀(j:Nat) (h:j<l.length),w.cell? ⟨b,off+j*2,none⟩=some (.int .i64 l[j].1)/\w.cell? ⟨b,off+j*2+1,none⟩=some (.int .i64 l[j].2)):
 Calls prog 35 #[.slice (some ⟨b,off,none⟩) n cap] w (JZ w (Cn l)):=by
 have hs:(AM l).length<=16777216:=by
  rcases Nat.lt_or_ge 16777216 (AM l).length with h|h
  ·exact absurd (by rw[<-Eu];unfold sR;rw[if_neg AD];rfl) hc0
  ·exact h
 have Dw:=AC (LP b off n cap l w c Eu hl hn hN hb hc);have HL:=AC hl;have HC:=AC hc;have zN:Hid (Cn l=BM (AM l)):=AC (by unfold Cn;rw[GY hs]);have vJ:Hid (∀j,(AM (l.take j)).length<=16777216):=AC (fun j=>Nat.le_trans (I8 l j) hs);have ah:=AC (KX l);have J3:=AC hN;clear hl hc Eu hN hs;have d0:((c:Int) == 0)=false:=by simpa using hc0
 go_enter func35,ntmps35;go_wp2_with (go_at_call 65;refine Dw.out.mono ?_;rintro e w0 ⟨rfl,b0⟩;have Jl:=AC (And.intro b0 (Nat.lt_of_lt_of_le hb b0.below.size));clear b0)
 go_loopg [3,12] n (fun k v i wr=>∃j:Nat,k=n-j/\j<=n/\i=.int .i64 j/\AA w wr/\Ge wr w.heap.size v (BM (AM (l.take j))))
 case atStart=>exact ⟨0,AD,AD,rfl,Jl.out.1,IL _ _⟩
 case round=>
  obtain ⟨j,hk,hj,rfl,ha,ho⟩:=hrel;have HA:=AC (And.intro ha ho);by_cases BN:j<n
  ·have lj:j<l.length:=by rw[HL.out];exact BN
   have c0:wr.cell? ⟨b,off+j*2,none⟩=some (.int .i64 l[j].1):=(ha.below.cell hb).trans (HC j lj).1;have c1:wr.cell? ⟨b,off+j*2+1,none⟩=some (.int .i64 l[j].2):=(ha.below.cell hb).trans (HC j lj).2;have HS:=AC (Dn lj);have hx:=J3 l[j] (getElem_mem lj);generalize l[j]=x at *;obtain ⟨f,s⟩:=x;simp only at c0 c1 hx HS
   have HLJ:Hid ((BM (AM (l.take j))).length<=j):=AC (ah j (Nat.le_of_lt lj));have LY:=AC ((AA.refl wr).alloc (.cells #[.int .i64 f,.int .i64 s] 76))
   cases hf:CY (f,s) with
   |true=>
    have HF:=AC (fun w=>GR f s w true hf hx.1 hx.2);obtain ⟨f1,f2,_⟩:=Cz hf;simp only at f1 f2
    have HE:Hid (BM (AM (l.take (j+1)))=Eh (BM (AM (l.take j))) (f,s)):=AC (by rw[HS.out,VQ hf]);have xk:=AC (Ts (AM (l.take j)));have TO:=AC (vJ j);clear hf hx;generalize BM (AM (l.take j))=m at *
    cases hm:m.length with
    |zero=>
     obtain rfl:=eq_nil_of_length_eq_zero hm
     obtain ⟨A,cb,rfl,_,_⟩:=ho.reads;have sH:Hid (Eh [] (f,s)=[]++[(f,s)]):=AC rfl;clear ha ho;go_wp2_with (go_at_call 88;refine (HF _).mono ?_;rintro e w1 ⟨rfl,b1⟩;obtain ⟨e0,e1⟩:=Eb b1;have b2:=LY.out.trans b1;have Ej:=AC (And.intro (HA.out.1.trans b2) (HA.out.2.later b2));clear b1 b2)
     go_quiet (fail)
     have b1:AA w1 (w1.drewN nq):=(AA.refl w1).drewN nq;obtain ⟨u,w2,k1,k2,k3⟩:=Nh (f,s) (Ej.out.2.later b1) (Ej.out.1.trans b1).below.size (by have:=HLJ.out;omega);have K1:=AC k1;have HB:=AC (And.intro (k3 w (le_refl _) (Ej.out.1.trans b1)) k2);clear k1 k2 k3 b1;go_wp2_with (at_builtin;refine Lib.wpList_append_run _ rfl _ _ _ _ rfl _ _ rfl rfl _ _ K1.out ?_)
     go_roundg (n-(j+1))
     case measure=>omega
     case rel=>exact ⟨j+1,rfl,BN,by go_num,HB.out.1,by rw[HE.out,sH.out];exact HB.out.2⟩
    |succ i=>
     have hi:i<90000:=by have:=HLJ.out;omega
     obtain ⟨g,cb,t,t2,rfl,hB,hg,_,_,hs,_,_⟩:=ho.am hm;have iN:=xk _ (List.mem_of_getElem? hs);simp only at iN
     obtain ⟨t0,t1⟩:=iN;have ht:t<=16777216:=by have:=TO.out;omega
     have HQ:=AC (And.intro hm hs);clear ha ho hm hs xk t1;by_cases he:t2=s
     ·subst he;have sH:Hid (Eh m (f,t2)=m.modify i fun b=>(t+f,b.2)):=AC (R_ f t2 t i m HQ.out.1 HQ.out.2);go_wp2_with (go_at_call 88;refine (HF _).mono ?_;rintro e w1 ⟨rfl,b1⟩;obtain ⟨e0,e1⟩:=Eb b1;have b2:=LY.out.trans b1;have Ej:=AC (And.intro (HA.out.1.trans b2) (HA.out.2.later b2));clear b1 b2)
      obtain ⟨g2,cb2,t3,t4,q1,_,_,g0,g1,q2,f0,q3⟩:=Ej.out.2.am HQ.out.1;cases q1;obtain ⟨rfl,rfl⟩:t3=t/\t4=t2:=by
       rw[HQ.out.2]at q2;cases q2;exact ⟨rfl,rfl⟩
      clear q2 q3
      go_quiet (fail)
      go_wp2_with fail
      go_region
      go_wp2_with fail;go_roundg (n-(j+1))
      case measure=>omega
      case rel=>
       have b3:AA w1 (w1.drewN (nq+1)):=(AA.refl w1).drewN (nq+1);obtain ⟨_,_,_,_,q1,q2,_,_,_,_,_,q3⟩:=(Ej.out.2.later b3).am HQ.out.1;cases q1;exact ⟨j+1,rfl,BN,by go_num,(Ej.out.1.trans b3).setCell (p:=⟨g,i*2,none⟩) q2 _,by rw[HE.out,sH.out];exact q3 (t3+f)⟩
     ·have MU:(t2 == s)=false:=by simpa using he
      have sH:Hid (Eh m (f,s)=m++[(f,s)]):=AC (Wh (f,s) m (fun q hq=>by
       rw[Xg HQ.out.1 HQ.out.2]at hq;cases hq;exact he))
      go_wp2_with (go_at_call 88;refine (HF _).mono ?_;rintro e w1 ⟨rfl,b1⟩;obtain ⟨e0,e1⟩:=Eb b1;have b2:=LY.out.trans b1;have Ej:=AC (And.intro (HA.out.1.trans b2) (HA.out.2.later b2));clear b1 b2)
      obtain ⟨g2,cb2,t3,t4,q1,_,_,g0,g1,q2,f0,q3⟩:=Ej.out.2.am HQ.out.1;cases q1;obtain ⟨rfl,rfl⟩:t3=t/\t4=t2:=by
       rw[HQ.out.2]at q2;cases q2;exact ⟨rfl,rfl⟩
      clear q2 q3
      go_quiet (fail)
      have b1:AA w1 (w1.drewN nq):=(AA.refl w1).drewN nq;obtain ⟨u,w2,k1,k2,k3⟩:=Nh (f,s) (Ej.out.2.later b1) (Ej.out.1.trans b1).below.size (by have:=HLJ.out;omega);have K1:=AC k1;have HB:=AC (And.intro (k3 w (le_refl _) (Ej.out.1.trans b1)) k2);clear k1 k2 k3 b1;go_wp2_with (at_builtin;refine Lib.wpList_append_run _ rfl _ _ _ _ rfl _ _ rfl rfl _ _ K1.out ?_)
      go_roundg (n-(j+1))
      case measure=>omega
      case rel=>exact ⟨j+1,rfl,BN,by go_num,HB.out.1,by rw[HE.out,sH.out];exact HB.out.2⟩
   |false=>
    have HF:=AC (fun w=>GR f s w false hf hx.1 hx.2);have HE:Hid (AM (l.take (j+1))=AM (l.take j)):=AC (by rw[HS.out,Tj hf,List.append_nil]);clear hf hx ha ho;go_wp2_with (go_at_call 88;refine (HF _).mono ?_;rintro e w1 ⟨rfl,b1⟩;have b2:=LY.out.trans b1;have Ej:=AC (And.intro (HA.out.1.trans b2) (HA.out.2.later b2));clear b1 b2)
    go_roundg (n-(j+1))
    case measure=>omega
    case rel=>exact ⟨j+1,rfl,BN,by go_num,Ej.out.1,by rw[HE.out];exact Ej.out.2⟩
  ·obtain rfl:j=n:=AD
   clear ha ho;go_wp2_with fail;go_ret;exact ⟨_,rfl,HA.out.1,by have:=HA.out.2;rw[zN.out];rwa [take_of_length_le (le_of_eq HL.out)]at this⟩
theorem YJ(v:Value)(l:Aa)(w:World)(Eu:(sR l).length=0)(hv:FH w v l)(hN:CV l)(hn:l.length<=90000):Calls prog 35 #[v] w (JZ w (Cn l)):=by
 have Dw:=AC (EE v l w 0 Eu hv hN hn);have zN:Hid (Cn l=[]):=AC (by unfold Cn;rw[eq_nil_of_length_eq_zero Eu];rfl);clear Eu hv hN hn;go_enter func35,ntmps35;go_wp2_with (go_at_call 65;refine Dw.out.mono ?_;rintro e w0 ⟨rfl,b0⟩;have Jl:=AC b0;clear b0)
 go_ret;exact ⟨_,rfl,Jl.out,by rw[zN.out];exact IL _ _⟩
theorem I_(v:Value)(l:Aa)(w:World)(h:FH w v l)(hN:CV l)(hn:l.length<=90000):Calls prog 35 #[v] w (JZ w (Cn l)):=by
 by_cases h0:(sR l).length=0
 ·exact YJ v l w h0 h hN hn
 ·obtain ⟨A,cap,rfl,h2,h3⟩:=h;rcases eq_zero_or_pos l.length with h1|h1
  ·obtain rfl:=eq_nil_of_length_eq_zero h1
   exact absurd rfl h0
  ·obtain ⟨b,off,rfl,hb,Eu⟩:=h3 h1;exact Yf b off _ cap _ l w rfl h0 rfl hn hN hb Eu
abbrev pC:=Int × Int × Int × Int
abbrev Bc:=List pC
def Gf:Ic pC where
 fl c:=[.int .i64 c.1,.int .i64 c.2.1,.int .i32 c.2.2.1,.int .i64 c.2.2.2]
 k:=4
 pos:=by decide
 len _:=rfl
 one a u hu:=by
  simp only[mem_cons,not_mem_nil,or_false]at hu;rcases hu with rfl|rfl|rfl|rfl <;> rfl
theorem aS:Jy Gf 160 108 (.agg #[.int .i64 0,.int .i64 0,.int .i32 0,.int .i64 0]) 32 where
 Yq:=underlying108
 el:=AY
 info:=AY
 size:=fun w=>by simp[go_sem,Gf]
 zero:=rfl
 mA:=by decide
abbrev rM(x:Int):Prop:= -2147483648<=x/\x<=2147483647
def vZ(c:pC):Prop:=BO c.1/\BO c.2.1/\rM c.2.2.1/\BO c.2.2.2
def Gc(l:Bc):Prop:=∀c∈l,vZ c
def Up(f:Int):Int:=if f=2 then 12 else 6+f
def Kt(r s x:Int):Int:=if r=9 then (if x<0\/1073741824<x then 0 else 48-x%48) else Up (C0 s)
def Of(c:pC)(x:Int):Int:=Kt c.2.2.1 c.2.2.2 x
theorem M9(s:Int):0<=C0 s/\C0 s<=2:=by
 unfold C0;split
 ·omega
 ·omega
theorem oy(s:Int):6<=Up (C0 s)/\Up (C0 s)<=12:=by
 have:=M9 s
 unfold Up;split <;> omega
theorem Mw(r s x:Int):0<=Kt r s x/\Kt r s x<=48:=by
 have:=oy s
 unfold Kt;split
 ·split <;> omega
 ·omega
def NI(x:Int):Bc->List Int
 |[]=>[x]
 |c::l=>x::NI (x+Of c x) l
theorem C8:∀(l:Bc) (x:Int),(NI x l).length=l.length+1
 |[],_=>rfl
 |c::l,x=>by rw[NI,length_cons,C8 l,length_cons]
def Ij(x:Int)(l:Bc):Int:=l.foldl (fun x c=>x+Of c x) x
theorem NO(x:Int)(l:Bc)(c:pC):Ij x (l++[c])=Ij x l+Of c (Ij x l):=by unfold Ij;rw[List.foldl_append];rfl
theorem My:∀(l:Bc) (x:Int) (c:pC),NI x (l++[c])=NI x l++[Ij x (l++[c])]
 |[],x,c=>rfl
 |d::l,x,c=>by
  show x::NI _ (l++[c])=x::(NI _ l++_)
  rw[My l];rfl
theorem O5:∀(l:Bc) (x:Int),x<=Ij x l/\Ij x l<=x+48*l.length
 |[],x=>by simp[Ij]
 |c::l,x=>by
  have h:=O5 l (x+Of c x);have h2:=Mw c.2.2.1 c.2.2.2 x;show x<=Ij (x+Of c x) l/\_
  change _/\Ij (x+Of c x) l<=_
  unfold Of at *;rw[length_cons];omega
theorem iD(l:Bc)(x:Int):(NI x l)[l.length]?=some (Ij x l):=by
 rcases List.eq_nil_or_concat l with rfl|⟨m,c,rfl⟩
 ·rfl
 ·rw[List.concat_eq_append,My,length_append,List.getElem?_append_right (by rw[C8];simp),C8];simp
theorem SX(s:Int)(w:World)(c:Int)(hc:C0 s=c)(hs:BO s):Calls prog 243 #[.int .i64 s] w fun e w'=>e=.returned (.int .i64 c)/\w=w':=by
 rcases hg:BL s
 ·have HG:=AC (fun w=>JB s w false hg);have HC:Hid (0=c):=AC (by rw[<-hc];unfold C0;rw[hg];rfl);clear hc hg;obtain ⟨s1,s2⟩:=hs;go_enter func243,ntmps243;go_wp2_with fail;refine (HG _).mono ?_;rintro e w1 ⟨rfl,rfl⟩;go_wp2_with fail;go_ret;exact ⟨CZ HC.out,rfl⟩
 ·have HG:=AC (fun w=>JB s w true hg);have HC:Hid (s%3=c):=AC (by rw[<-hc];unfold C0;rw[hg];rfl);obtain ⟨s1,s2⟩:=Hn hg;clear hc hg hs;go_enter func243,ntmps243;go_wp2_with fail;refine (HG _).mono ?_;rintro e w1 ⟨rfl,rfl⟩;go_wp2_with fail;go_ret;exact ⟨CZ HC.out,rfl⟩
theorem jQ(f r:Int)(w:World)(c:Int)(hc:Up f=c)(hf:0<=f/\f<=2):Calls prog 242 #[.int .i64 f,.int .i32 r] w fun e w'=>e=.returned (.int .i64 c)/\w=w':=by
 have qG:f=0\/f=1\/f=2:=AD;clear hf;rcases qG with rfl|rfl|rfl
 all_goals
  have H:=AC hc;clear hc;go_enter func242,ntmps242;go_wp2_with fail;go_ret;exact ⟨CZ (by rw[<-H.out];rfl),rfl⟩
theorem jy(x:Int)(w:World)(hx:0<=x/\x<=1073741824):Calls prog 267 #[.int .i64 x,.int .i64 48] w fun e w'=>e=.returned (.int .i64 (x%48))/\w=w':=by
 obtain ⟨h1,h2⟩:=hx;go_enter func267,ntmps267;go_wp2_with fail;go_ret;exact ⟨rfl,rfl⟩
theorem dP(x:Int)(w:World)(hx:0<=x/\x<=1073741824):Calls prog 244 #[.int .i64 x,.int .i64 48] w fun e w'=>e=.returned (.int .i64 (x+(48-x%48)))/\w=w':=by
 have HM:=AC (fun w=>jy x w hx);obtain ⟨h1,h2⟩:=hx;obtain ⟨m,hm⟩:=BZ (x%48);have h3:0<=m:=AD;have h4:m<=47:=AD;rw[hm]at HM ⊢;clear hm;go_enter func244,ntmps244;go_wp2_with fail;refine (HM _).mono ?_;rintro e w1 ⟨rfl,rfl⟩;go_wp2_with fail;go_ret;exact ⟨rfl,rfl⟩
theorem Xw(f:Int)(w:World)(c:Int)(hc:Up f=c)(hf:0<=f/\f<=2):Calls prog 232 #[.int .i64 f] w fun e w'=>e=.returned (.int .i64 c)/\w=w':=by
 have qG:f=0\/f=1\/f=2:=AD;clear hf;rcases qG with rfl|rfl|rfl
 all_goals
  have H:=AC hc;clear hc;go_enter func232,ntmps232;go_wp2_with fail;go_ret;exact ⟨CZ (by rw[<-H.out];rfl),rfl⟩
theorem Qz(a n r s x:Int)(w:World)(c:Int)(hc:Kt r s x=c)(hr:rM r)(hs:BO s)(hx:BO x):
 Calls prog 201 #[.agg #[.int .i64 a,.int .i64 n,.int .i32 r,.int .i64 s],.int .i64 x] w fun e w'=>e=.returned (.int .i64 c)/\AA w w':=by
 obtain ⟨r1,r2⟩:=hr;by_cases h9:r=9
 ·subst h9;by_cases h1:x<0
  ·have HC:Hid (0=c):=AC (by rw[<-hc];unfold Kt;rw[if_pos rfl,if_pos (.inl h1)]);clear hc;go_enter func201,ntmps201;go_wp2_with fail;go_ret;exact ⟨CZ HC.out,BQ⟩
  ·by_cases h2:1073741824<x
   ·have HC:Hid (0=c):=AC (by rw[<-hc];unfold Kt;rw[if_pos rfl,if_pos (.inr h2)]);clear hc;go_enter func201,ntmps201;go_wp2_with fail;go_ret;exact ⟨CZ HC.out,BQ⟩
   ·have HC:Hid (48-x%48=c):=AC (by rw[<-hc];unfold Kt;rw[if_pos rfl,if_neg AD]);have HN:=AC (fun w=>dP x w ⟨AD,AD⟩);obtain ⟨m,hm⟩:=BZ (x%48);have h3:0<=m:=AD;have h4:m<=47:=AD;rw[hm]at HN HC;clear hc hm;go_enter func201,ntmps201;go_wp2_with fail;refine (HN _).mono ?_;rintro e w1 ⟨rfl,rfl⟩;go_wp2_with fail;go_ret;exact ⟨CZ (by have:=HC.out;omega),BQ⟩
 ·have h9f:(r != 9)=true:=by simpa using h9
  have HC:Hid (Up (C0 s)=c):=AC (by rw[<-hc];unfold Kt;rw[if_neg h9]);have tV:=M9 s;have HF:=AC (fun w=>SX s w _ rfl hs);generalize C0 s=f at *;have HA:=AC (fun w=>jQ f r w c HC tV);clear hc h9;obtain ⟨s1,s2⟩:=hs;go_enter func201,ntmps201;go_wp2_with fail;refine JL w (w.heap.size) (.cells #[.int .i64 a,.int .i64 n,.int .i32 r,.int .i64 s] 160) ?_;intro w1 AJ AH;have AG:=AJ;apply Ac (6) [] AY AY Ar
  case hstab=>
   intro e he v x y BE hv;simp only[mem_cons,not_mem_nil,or_false]at he
  case hlex=>
   intro U;have q0:=fun (v:BA (later U))=>AE (AB ⟨v,rfl⟩ (AB ⟨U,rfl⟩ AH))
   refine Ku ?_
   repeat (go_big_quiet_step (first|(go_at_call 243;exact Id (HF _))|(go_at_call 242;exact Id (HA _))))
   exact wpQuiet_nil rfl
  case hown=>
   intro e he o ho;simp only[mem_cons,not_mem_nil,or_false]at he
  case htail=>
   intro g u Aw Az;have AL:AA w1 (later u):=⟨u,rfl⟩;generalize later u=w2 at *;clear u;clear Aw Az;refine DH ?_;have AR:=AG.trans AL;go_wp2_with fail;go_ret;exact ⟨rfl,BQ⟩
theorem Ur(a n r s x:Int)(w:World)(c:Int)(hc:Kt r s x=c)(hr:rM r)(hs:BO s)(hx:BO x):
 Calls prog 188 #[.agg #[.int .i64 a,.int .i64 n,.int .i32 r,.int .i64 s],.int .i64 x] w fun e w'=>e=.returned (.int .i64 c)/\AA w w':=by
 obtain ⟨r1,r2⟩:=hr;by_cases h9:r=9
 ·subst h9;by_cases h1:x<0
  ·have HC:Hid (0=c):=AC (by rw[<-hc];unfold Kt;rw[if_pos rfl,if_pos (.inl h1)]);clear hc;go_enter func188,ntmps188;go_wp2_with fail;go_ret;exact ⟨CZ HC.out,BQ⟩
  ·by_cases h2:1073741824<x
   ·have HC:Hid (0=c):=AC (by rw[<-hc];unfold Kt;rw[if_pos rfl,if_pos (.inr h2)]);clear hc;go_enter func188,ntmps188;go_wp2_with fail;go_ret;exact ⟨CZ HC.out,BQ⟩
   ·have HC:Hid (48-x%48=c):=AC (by rw[<-hc];unfold Kt;rw[if_pos rfl,if_neg AD]);clear hc;go_enter func188,ntmps188;go_wp2_with fail;go_ret;exact ⟨CZ HC.out,BQ⟩
 ·have h9f:(r != 9)=true:=by simpa using h9
  have HC:Hid (Up (C0 s)=c):=AC (by rw[<-hc];unfold Kt;rw[if_neg h9]);have tV:=M9 s;have HF:=AC (fun w=>UL s w _ rfl hs);generalize C0 s=f at *;have HA:=AC (fun w=>Xw f w c HC tV);clear hc h9;obtain ⟨s1,s2⟩:=hs;go_enter func188,ntmps188;go_wp2_with fail;refine (HF _).mono ?_;rintro e w1 ⟨rfl,rfl⟩;go_wp2_with fail;refine (HA _).mono ?_;rintro e w1 ⟨rfl,rfl⟩;go_wp2_with fail;go_ret;exact ⟨rfl,BQ⟩
theorem XT(a n r s:Int)(w:World)(c:Bool)(hc:decide (r=9\/r=32)=c):
 Calls prog 202 #[.agg #[.int .i64 a,.int .i64 n,.int .i32 r,.int .i64 s]] w fun e w'=>e=.returned (.bool c)/\AA w w':=by
 by_cases h1:r=32
 ·subst h1;have HC:Hid (true=c):=AC (by rw[<-hc];rfl);clear hc;go_enter func202,ntmps202;go_wp2_with fail;go_ret;exact ⟨Am HC.out,BQ⟩
 ·have e1:(r == 32)=false:=by simpa using h1
  have HC:Hid ((r == 9)=c):=AC (by rw[<-hc];by_cases h2:r=9 <;> simp[h1,h2]);generalize hb:(r == 9)=b at *;clear hc h1;go_enter func202,ntmps202;go_wp2_with fail;go_ret;exact ⟨Am HC.out,BQ⟩
end
end Go.Proofs.YtamhnffokoejjaaGreatDoor
