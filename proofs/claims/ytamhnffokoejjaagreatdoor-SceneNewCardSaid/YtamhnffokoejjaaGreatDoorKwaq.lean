import Derived.Deep.DeepCutAuto
import Derived.Deep.CutBlock
import Derived.Test.YtamhnffokoejjaaGreatDoorKwae
import Derived.Test.YtamhnffokoejjaaGreatDoorRows
set_option linter.all false
set_option maxHeartbeats 1600000
set_option maxRecDepth 100000
namespace Go.Proofs.YtamhnffokoejjaaGreatDoor
open List(replicate length_cons mem_cons_self getElem?_cons_succ)
open Go.RowKit
def BL(s:Int):Bool:=decide (0<=s/\s<24)
theorem Hn{s:Int}(h:BL s=true):0<=s/\s<24:=of_decide_eq_true h
abbrev BO(x:Int):Prop:= -9223372036854775808<=x/\x<=9223372036854775807
def C0(s:Int):Int:=if BL s=true then s%3 else 0
theorem Jj(s:Int)(w:World)(c:Bool)(hc:BL s=c)(hs:BO s):Calls Tryz.prog 144 #[.int .i64 s] w fun e w'=>e=.returned (.bool c)/\w=w':=by
 obtain ⟨s1,s2⟩:=hs;by_cases q1:s<0
 ·obtain rfl:false=c:=by rw[<-hc];exact (decide_eq_false AD).symm
  clear hc;go_enter Tryz.func144,Tryz.ntmps144;go_wp2_with fail;go_ret;exact ⟨rfl,rfl⟩
 ·by_cases q2:s<24
  ·obtain rfl:true=c:=by rw[<-hc];exact (decide_eq_true ⟨AD,q2⟩).symm
   clear hc;go_enter Tryz.func144,Tryz.ntmps144;go_wp2_with fail;go_ret;exact ⟨rfl,rfl⟩
  ·obtain rfl:false=c:=by rw[<-hc];exact (decide_eq_false AD).symm
   clear hc;go_enter Tryz.func144,Tryz.ntmps144;go_wp2_with fail;go_ret;exact ⟨rfl,rfl⟩
end Go.Proofs.YtamhnffokoejjaaGreatDoor
namespace Go.Proofs.YtamhnffokoejjaaGreatDoor
open List(replicate length_cons mem_cons_self getElem?_cons_succ)
section
variable{s:Int}{r:Int × Int}{l:List Int}
abbrev Aa:=List (Int × Int)
def CY(r:Int × Int):Bool:=decide (1<=r.1/\r.1<=16777216) && BL r.2
def DY(r:Int × Int):List Int:=if CY r then replicate r.1.toNat r.2 else []
def AM(l:Aa):List Int:=l.flatMap DY
def Bj(s:Int):Aa->Aa
 |[]=>[(1,s)]
 |(n,t)::r=>if t=s then (n+1,t)::r else (1,s)::(n,t)::r
def BM:List Int->Aa
 |[]=>[]
 |s::l=>Bj s (BM l)
theorem G4(s:Int):Bj s []=[(1,s)]:=rfl
theorem BV(s n t:Int)(r:Aa):Bj s ((n,t)::r)=if t=s then (n+1,t)::r else (1,s)::(n,t)::r:=rfl
theorem GK:AM []=[]:=rfl
theorem Cr(r:Int × Int)(l:Aa):AM (r::l)=DY r++AM l:=rfl
theorem Bw(a b:Aa):AM (a++b)=AM a++AM b:=by unfold AM;rw[List.flatMap_append]
theorem FG:((DY r).length:Int)=if CY r then r.1 else 0:=by
 unfold DY;split
 ·rename_i h
  unfold CY at h;rw[Bool.and_eq_true,decide_eq_true_eq]at h;rw[List.length_replicate];omega
 ·rfl
theorem Cz(h:CY r=true):1<=r.1/\r.1<=16777216/\BL r.2=true:=by
 unfold CY at h;rw[Bool.and_eq_true,decide_eq_true_eq]at h;exact ⟨h.1.1,h.1.2,h.2⟩
theorem TP{l:Aa}(h:s∈AM l):BL s=true:=by
 obtain ⟨r,_,hr⟩:=List.mem_flatMap.1 h;unfold DY at hr;split at hr
 ·rename_i hf
  rw[List.eq_of_mem_replicate hr];exact (Cz hf).2.2
 ·cases hr
theorem Kn(s:Int)(l:List Int):∃n r,BM (s::l)=(n,s)::r/\1<=n:=by
 show ∃n r,Bj s (BM l)=(n,s)::r/\1<=n
 have key:∀(l:List Int) (m t:Int) (r:Aa),BM l=(m,t)::r->1<=m:=by
  intro l
  induction l with
  |nil=>intro m t r h;cases h
  |cons x l ih=>
   intro m t r h
   change Bj x (BM l)=_ at h
   cases hl:BM l with
   |nil=>rw[hl,G4]at h;cases h;omega
   |cons y q=>
    obtain ⟨k,u⟩:=y;rw[hl,BV]at h;split at h
    ·cases h;have:=ih _ _ _ hl;omega
    ·cases h;omega
 cases hl:BM l with
 |nil=>exact ⟨1,[],rfl,AD⟩
 |cons y q=>
  obtain ⟨k,u⟩:=y;rw[BV];split
  ·rename_i h;exact ⟨k+1,q,by rw[h],by have:=key l k u q hl;omega⟩
  ·exact ⟨1,_,rfl,AD⟩
theorem aC(h:BM l=[]):l=[]:=by
 cases l with
 |nil=>rfl
 |cons s l=>obtain ⟨n,r,e,_⟩:=Kn s l;rw[e]at h;cases h
theorem Wb:∀(l:List Int) (s:Int),∃m,(BM (l++[s])).length=m+1/\BM (l++[s,s])=(BM (l++[s])).modify m fun r=>(r.1+1,r.2)
 |[],s=>⟨0,rfl,by show BM [s,s]=_;simp[BM,Bj]⟩
 |x::l,s=>by
  obtain ⟨m,h1,h2⟩:=Wb l s;show ∃m,(Bj x (BM (l++[s]))).length=m+1/\Bj x (BM (l++[s,s]))=(Bj x (BM (l++[s]))).modify m _
  rw[h2]
  cases hl:BM (l++[s]) with
  |nil=>rw[hl]at h1;cases h1
  |cons y q=>
   obtain ⟨k,u⟩:=y;rw[hl]at h1
   cases m with
   |zero=>
    rw[List.modify_zero_cons];have hq:q=[]:=List.eq_nil_of_length_eq_zero (by simpa using h1);subst hq;by_cases e:u=x
    ·refine ⟨0,?_,?_⟩
     ·simp[Bj,e]
     ·simp[Bj,e]
    ·refine ⟨1,?_,?_⟩
     ·simp[Bj,e]
     ·simp[Bj,e]
   |succ m=>
    rw[List.modify_succ_cons];have hq:q.length=m+1:=by simpa using h1
    by_cases e:u=x
    ·refine ⟨m+1,?_,?_⟩
     ·simp[Bj,e,hq]
     ·simp[Bj,e]
    ·refine ⟨m+2,?_,?_⟩
     ·simp[Bj,e,hq]
     ·simp[Bj,e]
theorem Z4:∀(l:List Int) (t s:Int),t≠s->BM (l++[t,s])=BM (l++[t])++[(1,s)]
 |[],t,s,h=>by simp[BM,Bj,Ne.symm h]
 |x::l,t,s,h=>by
  show Bj x (BM (l++[t,s]))=Bj x (BM (l++[t]))++[(1,s)]
  rw[Z4 l t s h]
  cases hl:BM (l++[t]) with
  |nil=>exact absurd (aC hl) Ar
  |cons y q=>
   obtain ⟨k,u⟩:=y;by_cases e:u=x
   ·simp[Bj,e]
   ·simp[Bj,e]
theorem Mn(s:Int)(r:Aa):(Bj s r).length<=r.length+1/\1<=(Bj s r).length:=by
 cases r with
 |nil=>simp[Bj]
 |cons y q=>
  obtain ⟨k,u⟩:=y;rw[BV];split <;> simp
theorem C5:∀l:List Int,(BM l).length<=l.length
 |[]=>Nat.le_refl 0
 |s::l=>by
  have h1:=C5 l;have h2:=(Mn s (BM l)).1;show (Bj s (BM l)).length<=_
  rw[length_cons];omega
theorem Tl{r:Aa}(hs:BL s=true)(hf:∀x∈r,1<=x.1/\BL x.2=true)(hl:∀x∈r,x.1+1<=16777216):AM (Bj s r)=s::AM r:=by
 have h1:DY (1,s)=[s]:=by
  unfold DY CY;rw[if_pos (by rw[hs];rfl)];rfl
 cases r with
 |nil=>show DY (1,s)++[]=_;rw[h1];rfl
 |cons y q=>
  obtain ⟨k,u⟩:=y;have hk:=hf (k,u) Ar;have Gh:=hl (k,u) Ar;simp only at hk Gh
  rw[BV];split
  ·rename_i e
   subst e;rw[Cr,Cr];unfold DY CY;rw[if_pos (by simp only[hk.2,Bool.and_true];exact decide_eq_true AD),if_pos (by simp only[hk.2,Bool.and_true];exact decide_eq_true AD)];simp only
   rw[show (k+1).toNat=k.toNat+1 by omega,List.replicate_succ,List.cons_append]
  ·rw[Cr,h1];rfl
theorem Hv:∀{l:List Int},(∀s∈l,BL s=true)->∀r∈BM l,1<=r.1/\r.1<=l.length/\BL r.2=true
 |[],_,r,hr=>by cases hr
 |s::l,h,r,hr=>by
  have ih:=Hv (l:=l) (fun x hx=>h x (List.mem_cons_of_mem _ hx));have hs:=h s mem_cons_self
  change r∈Bj s (BM l) at hr
  rw[length_cons]
  cases hl:BM l with
  |nil=>
   rw[hl]at hr;cases List.mem_singleton.1 hr
   exact ⟨AD,AD,hs⟩
  |cons y q=>
   rw[hl]at hr ih;obtain ⟨k,u⟩:=y;have hy:=ih (k,u) mem_cons_self;simp only at hy
   rw[BV]at hr;split at hr
   ·rcases List.mem_cons.1 hr with rfl|hr
    ·exact ⟨by simp only;omega,by simp only;omega,hy.2.2⟩
    ·have:=ih r (List.mem_cons_of_mem _ hr);exact ⟨this.1,AD,this.2.2⟩
   ·rcases List.mem_cons.1 hr with rfl|hr
    ·exact ⟨by simp only;omega,by simp only;omega,hs⟩
    ·have:=ih r hr;exact ⟨this.1,AD,this.2.2⟩
theorem G0:∀{l:List Int},(∀s∈l,BL s=true)->l.length<=16777216->AM (BM l)=l
 |[],_,_=>rfl
 |s::l,h,hl=>by
  rw[length_cons]at hl;have h':∀x∈l,BL x=true:=fun x hx=>h x (List.mem_cons_of_mem _ hx)
  show AM (Bj s (BM l))=_
  rw[Tl (h s mem_cons_self) (fun x hx=>⟨(Hv h' x hx).1,(Hv h' x hx).2.2⟩) (fun x hx=>by have:=Hv h' x hx;omega),G0 h' AD]
def sR(l:Aa):List Int:=if (AM l).length<=16777216 then AM l else []
def Cn(l:Aa):Aa:=BM (sR l)
theorem LK{l:Aa}:∀s∈sR l,BL s=true:=by
 intro s hs;unfold sR at hs;split at hs
 ·exact TP hs
 ·cases hs
theorem Jn(l:Aa):(sR l).length<=16777216:=by
 unfold sR;split
 ·rename_i h;exact h
 ·exact Nat.zero_le _
theorem ar(h:∀s∈l,BL s=true)(hl:l.length<=16777216):sR (BM l)=l:=by
 unfold sR;rw[G0 h hl,if_pos hl]
theorem GY{l:Aa}(h:(AM l).length<=16777216):sR l=AM l:=by unfold sR;rw[if_pos h]
def uB(l:Aa)(i:Int):Int:=if 0<=i then (sR l).getD i.toNat 0 else 0
def GQ(s:List Int)(f t R5:Int):List Int:=s.take f.toNat++replicate (t-f).toNat R5++s.drop t.toNat
def DF(s:List Int)(at_:Int):Int:=s.getD (at_-1).toNat 0
def I5(s:List Int)(at_ n:Int):List Int:=s.take at_.toNat++replicate n.toNat (DF s at_)++s.drop at_.toNat
def IZ(s:List Int)(at_ n:Int):List Int:=s.take at_.toNat++s.drop (at_+n).toNat
def De(n:Int)(k:Nat):Nat:=min n.toNat k
def IG(s:List Int)(f t:Int):List Int:=(s.take (De t s.length)).drop (De f s.length)
def Y_(l:Aa)(f t R5:Int):Aa × Int:=if f<0\/t<f\/((sR l).length:Int)<t then ([],1) else if BL R5 then (BM (GQ (sR l) f t R5),0) else ([],5)
def lH(l:Aa)(a n:Int):Aa × Int:=if a<0\/((sR l).length:Int)<a\/n<0 then ([],1) else if 16777216-((sR l).length:Int)<n then ([],2) else (BM (I5 (sR l) a n),0)
def gT(l:Aa)(a n:Int):Aa × Int:=if a<0\/((sR l).length:Int)<a\/n<0\/((sR l).length:Int)-a<n then ([],1) else (BM (IZ (sR l) a n),0)
def Em(l:Aa)(f t:Int):Aa:=BM (IG (sR l) f t)
end
end Go.Proofs.YtamhnffokoejjaaGreatDoor
namespace Go.Proofs.YtamhnffokoejjaaGreatDoor
open List(replicate length_cons mem_cons_self getElem?_cons_succ)
open Go.RowKit
section
variable{l:Aa}{B:Nat}{v:Value}{w w':World}
def FH(w:World)(v:Value)(l:Aa):Prop:=∃(A:Option Addr) (cap:Nat),v=.slice A l.length cap/\l.length<=cap/\(0<l.length->∃b off,A=some ⟨b,off,none⟩/\b<w.heap.size/\∀(j:Nat) (h:j<l.length),w.cell? ⟨b,off+j*2,none⟩=some (.int .i64 l[j].1)/\w.cell? ⟨b,off+j*2+1,none⟩=some (.int .i64 l[j].2))
theorem FH.later(h:FH w v l)(ha:AA w w'):FH w' v l:=by
 obtain ⟨A,cap,h1,h2,h3⟩:=h;refine ⟨A,cap,h1,h2,fun h0=>?_⟩;obtain ⟨b,off,e,hb,hc⟩:=h3 h0;exact ⟨b,off,e,Nat.lt_of_lt_of_le hb ha.below.size,fun j hj=>⟨(ha.below.cell hb).trans (hc j hj).1,(ha.below.cell hb).trans (hc j hj).2⟩⟩
def Dp(l:Aa):List Value:=l.flatMap fun b=>[.int .i64 b.1,.int .i64 b.2]
theorem Nc:Dp []=[]:=rfl
theorem Hf(b:Int × Int)(l:Aa):Dp (b::l)=.int .i64 b.1::.int .i64 b.2::Dp l:=rfl
theorem TZ(a b:Aa):Dp (a++b)=Dp a++Dp b:=by unfold Dp;rw[List.flatMap_append]
theorem Gp:∀l:Aa,(Dp l).length=l.length*2
 |[]=>rfl
 |b::l=>by rw[Hf,length_cons,length_cons,Gp l,length_cons];omega
theorem M_:∀(l:Aa) (j:Nat),(Dp l)[j*2]?=(l[j]?).map fun b=>.int .i64 b.1
 |[],j=>by simp[Nc]
 |b::l,0=>rfl
 |b::l,j+1=>by
  rw[Hf,show (j+1)*2=j*2+1+1 by omega,getElem?_cons_succ,getElem?_cons_succ,M_ l j,getElem?_cons_succ]
theorem Oz:∀(l:Aa) (j:Nat),(Dp l)[j*2+1]?=(l[j]?).map fun b=>.int .i64 b.2
 |[],j=>by simp[Nc]
 |b::l,0=>rfl
 |b::l,j+1=>by
  rw[Hf,show (j+1)*2+1=j*2+1+1+1 by omega,getElem?_cons_succ,getElem?_cons_succ,Oz l j,getElem?_cons_succ]
theorem bB(l:Aa):∀u∈Dp l,u.oneCell'=true:=by
 intro u hu;obtain ⟨b,_,hb⟩:=List.mem_flatMap.1 hu;rcases List.mem_cons.1 hb with rfl|hb
 ·rfl
 ·rcases List.mem_cons.1 hb with rfl|hb
  ·rfl
  ·cases hb
def Ge(w:World)(B:Nat)(v:Value)(l:Aa):Prop:=w.ownsRow B 76 2 v l.length (Dp l)
theorem Ge.reads(h:Ge w B v l):FH w v l:=by
 rcases h.2 with ⟨rfl,h0⟩|⟨g,cap,cur,rfl,h2,h3,h4,h5,h6,h7⟩
 ·refine ⟨none,0,by rw[h0],AD,fun hp=>by omega⟩
 ·refine ⟨some ⟨g,0,none⟩,cap,rfl,h4,fun _=>⟨g,0,rfl,As h3,fun j hj=>?_⟩⟩;have e:∀k,k<l.length*2->cur[k]?=(Dp l)[k]?:=fun k hk=>by
   have:(cur.toList.take (l.length*2))[k]?=(Dp l)[k]?:=by rw[h7]
   rw[List.getElem?_take_of_lt hk]at this;simpa using this
  rw[Nat.zero_add,AE h3,AE h3,e _ AD,e _ AD,M_,Oz,List.getElem?_eq_getElem hj];exact ⟨rfl,rfl⟩
theorem Ge.later(h:Ge w B v l)(ha:AA w w'):Ge w' B v l:=GG ha h
theorem FH.cells{b off:Nat}(ha:AA w w')(hb:0<l.length->b<w.heap.size)(hc:∀(j:Nat) (h:j<l.length),w.cell? ⟨b,off+j*2,none⟩=some (.int .i64 l[j].1)/\w.cell? ⟨b,off+j*2+1,none⟩=some (.int .i64 l[j].2)):
 ∀(j:Nat) (u:Value),(Dp l)[j]?=some u->w'.cell? ((⟨b,off,none⟩:Addr).add j)=some u:=by
 intro j u hu;have rC:(⟨b,off,none⟩:Addr).add j=⟨b,off+j,none⟩:=by unfold Addr.add;split <;> simp_all
 have hj:j<l.length*2:=by
  rcases Nat.lt_or_ge j (l.length*2) with h|h
  ·exact h
  ·rw[List.getElem?_eq_none (by rw[Gp];exact h)]at hu;cases hu
 have hk:j/2<l.length:=AD;rw[rC,ha.below.cell (hb AD)];rcases Nat.mod_two_eq_zero_or_one j with hm|hm
 ·have e:j=j/2*2:=AD;rw[e]at hu ⊢;rw[M_,List.getElem?_eq_getElem hk]at hu;rw[(hc _ hk).1];exact hu
 ·have e:j=j/2*2+1:=AD;rw[e]at hu ⊢;rw[Oz,List.getElem?_eq_getElem hk]at hu;rw[<-Nat.add_assoc,(hc _ hk).2];exact hu
theorem Ug:(Tryz.prog.info? 76).map (fun i=>(i.zero,i.size,i.bytes))=some (some (.agg #[.int .i64 0,.int .i64 0]),2,16):=AY
theorem QQ(w:World):Ge (w.alloc (.cells #[] 76)) w.heap.size (.slice (some ⟨w.heap.size,0,none⟩) 0 0) []:=
 ⟨rfl,.inr ⟨w.heap.size,0,#[],rfl,Nat.le_refl _,Ae rfl,Nat.le_refl _,Nat.zero_le _,rfl,rfl⟩⟩
def JZ(W:World)(l:Aa)(e:Ending)(w':World):Prop:=∃v,e=.returned v/\AA W w'/\Ge w' W.heap.size v l
theorem eR:Tryz.prog.stoodInHeld 76=false:=AY
theorem YP:Tryz.prog.underlying 76=some (.struct (Tryz.prog.fieldsOf 76)):=AY
theorem Ry:Tryz.prog.eqGuardType Tryz.prog.depth 76=false:=AY
theorem wX(a b c d:Int)(w:World):(Op.equalIn 10000 76 (.agg #[.int .i64 a,.int .i64 b]) (.agg #[.int .i64 c,.int .i64 d])).run Tryz.prog w=.ok (a == c && b == d) w:=by
 rw[run_equalIn_agg w 9999 _ _ _ YP eR];by_cases h1:a=c
 ·by_cases h2:b=d
  ·simp[go_sem,h1,h2]
  ·simp[go_sem,h1,h2]
 ·simp[go_sem,h1]
theorem lY(a b c d:Int)(w:World):(binOp .neq 76 (.agg #[.int .i64 a,.int .i64 b]) (.agg #[.int .i64 c,.int .i64 d])).run Tryz.prog w=.ok (.bool (!(a == c && b == d))) w:=by
 rw[run_neq_struct,wX];rfl
theorem ZH(b off n cap b2 Km BP:Nat)(l l2:Aa)(w:World)(hl:l.length=n)(IY:l2.length=n)(hn:n<=100000)(hc:∀(j:Nat) (h:j<l.length),w.cell? ⟨b,off+j*2,none⟩=some (.int .i64 l[j].1)/\w.cell? ⟨b,off+j*2+1,none⟩=some (.int .i64 l[j].2))
 (D4:∀(j:Nat) (h:j<l2.length),w.cell? ⟨b2,Km+j*2,none⟩=some (.int .i64 l2[j].1)/\w.cell? ⟨b2,Km+j*2+1,none⟩=some (.int .i64 l2[j].2)) (hb:b<w.heap.size) (Hr:b2<w.heap.size):
 Calls Tryz.prog 41 #[.slice (some ⟨b,off,none⟩) n cap,.slice (some ⟨b2,Km,none⟩) n BP] w fun e w'=>e=.returned (.bool (decide (l=l2)))/\AA w w':=by
 have HL:=AC hl;have UT:=AC IY;have HC:=AC hc;have Hw:=AC D4;have gb:=Ry;have nb:=lY;clear hl hc IY D4;go_enter Tryz.func41,Tryz.ntmps41;go_wp2_with fail;go_loopg [5] n (fun k i wr=>AA w wr/\∃j:Nat,k=n-j/\j<=n/\i=.int .i64 j/\l.take j=l2.take j)
 case atStart=>exact ⟨AA.refl _,0,AD,AD,rfl,Ar⟩
 case round=>
  obtain ⟨AW,j,hk,hj,rfl,hf⟩:=hrel;have HF:=AC hf;have HA:=AC AW;clear hf;by_cases BN:j<n
  ·have lj:j<l.length:=by rw[HL.out];exact BN
   have rh:j<l2.length:=by rw[UT.out];exact BN
   have i1:(j:Int)<(n:Int):=AD;have c0:wr.cell? ⟨b,off+j*2,none⟩=some (.int .i64 l[j].1):=(AW.below.cell hb).trans (HC j lj).1;have c1:wr.cell? ⟨b,off+j*2+1,none⟩=some (.int .i64 l[j].2):=(AW.below.cell hb).trans (HC j lj).2;have d0:wr.cell? ⟨b2,Km+j*2,none⟩=some (.int .i64 l2[j].1):=(AW.below.cell Hr).trans (Hw j rh).1;have d1:wr.cell? ⟨b2,Km+j*2+1,none⟩=some (.int .i64 l2[j].2):=(AW.below.cell Hr).trans (Hw j rh).2;have HT:Hid (l.take (j+1)=l.take j++[l[j]]/\l2.take (j+1)=l2.take j++[l2[j]]):=AC ⟨List.take_succ_eq_append_getElem lj,List.take_succ_eq_append_getElem rh⟩;have HD:Hid (l[j]≠l2[j]->decide (l=l2)=false):=AC (fun hx=>decide_eq_false (fun e=>hx (by subst e;rfl)));generalize l[j]=x at *;generalize l2[j]=x2 at *;obtain ⟨f,t⟩:=x;obtain ⟨f2,t2⟩:=x2;simp only at c0 c1 d0 d1
   clear AW;by_cases h:f=f2/\t=t2
   ·obtain ⟨rfl,rfl⟩:=h;go_wp2_with fail
    go_quiet (fail)
    go_wp2_with fail;go_roundg (n-(j+1))
    case measure=>omega
    case rel=>exact ⟨HA.out.drewN _,j+1,rfl,BN,by go_num,by rw[HT.out.1,HT.out.2,HF.out]⟩
   ·have hd:(f == f2 && t == t2)=false:=by
     rw[Bool.and_eq_false_iff];by_cases h1:f=f2
     ·right;simp;exact fun e=>h ⟨h1,e⟩
     ·left;simpa using h1
    have Q:=AC (HD (fun e=>h ⟨(Prod.mk.inj e).1,(Prod.mk.inj e).2⟩));clear h HD HT;go_wp2_with fail
    go_quiet (fail)
    go_wp2_with fail;go_ret;exact ⟨Am Q.out.symm,HA.out.drewN _⟩
  ·obtain rfl:j=n:=AD
   have Q:Hid (decide (l=l2)=true):=AC (decide_eq_true (by
    have:=HF.out
    rwa [List.take_of_length_le (Nat.le_of_eq HL.out),List.take_of_length_le (Nat.le_of_eq UT.out)]at this))
   clear AW;go_wp2_with fail;go_ret;exact ⟨Am Q.out.symm,HA.out⟩
theorem VI(A A2:Option Addr)(n n2 cap BP:Nat)(w:World)(h:n≠n2):
 Calls Tryz.prog 41 #[.slice A n cap,.slice A2 n2 BP] w fun e w'=>e=.returned (.bool false)/\w=w':=by
 have h1:((n:Int) != (n2:Int))=true:=by simp;omega
 clear h;go_enter Tryz.func41,Tryz.ntmps41;go_wp2_with fail;go_ret;exact ⟨rfl,rfl⟩
theorem Zl(A A2:Option Addr)(cap BP:Nat)(w:World):
 Calls Tryz.prog 41 #[.slice A 0 cap,.slice A2 0 BP] w fun e w'=>e=.returned (.bool true)/\w=w':=by
 go_enter Tryz.func41,Tryz.ntmps41;go_wp2_with fail;refine wp_loop_rounds 1 ?_;rw[rounds_succ];go_wp2_with fail;go_ret;exact ⟨rfl,rfl⟩
theorem dF(v v2:Value)(l l2:Aa)(w:World)(c:Bool)(Eu:decide (l=l2)=c)(h:FH w v l)(h2:FH w v2 l2)(hn:l.length<=100000):
 Calls Tryz.prog 41 #[v,v2] w fun e w'=>e=.returned (.bool c)/\AA w w':=by
 subst Eu;obtain ⟨A,cap,rfl,k1,k2⟩:=h;obtain ⟨A2,BP,rfl,m1,m2⟩:=h2;by_cases hl:l.length=l2.length
 ·rcases Nat.eq_zero_or_pos l.length with h0|h0
  ·obtain rfl:=List.eq_nil_of_length_eq_zero h0
   obtain rfl:=List.eq_nil_of_length_eq_zero (hl.symm.trans h0)
   exact DT (Zl A A2 cap BP w)
  ·obtain ⟨b,off,rfl,hb,hc⟩:=k2 h0;obtain ⟨b2,Km,rfl,Hr,D4⟩:=m2 AD;rw[<-hl];exact ZH b off _ cap b2 Km BP l l2 w rfl hl.symm hn hc D4 hb Hr
 ·have e:decide (l=l2)=false:=decide_eq_false (fun e=>hl (by rw[e]));rw[e];exact DT (VI A A2 _ _ cap BP w hl)
theorem UL(s:Int)(w:World)(c:Int)(hc:C0 s=c)(hs:BO s):Calls Tryz.prog 139 #[.int .i64 s] w fun e w'=>e=.returned (.int .i64 c)/\w=w':=by
 rcases hg:BL s
 ·have HG:=AC (fun w=>Jj s w false hg hs);have HC:Hid (0=c):=AC (by rw[<-hc];unfold C0;rw[hg];rfl);clear hc hg;obtain ⟨s1,s2⟩:=hs;go_enter Tryz.func139,Tryz.ntmps139;go_wp2_with (go_at_call 144;refine (HG _).mono ?_;rintro e w' ⟨rfl,rfl⟩)
  go_ret;exact ⟨CN HC.out,rfl⟩
 ·have HG:=AC (fun w=>Jj s w true hg hs);have HC:Hid (s%3=c):=AC (by rw[<-hc];unfold C0;rw[hg];rfl);obtain ⟨s1,s2⟩:=Hn hg;clear hc hg hs;go_enter Tryz.func139,Tryz.ntmps139;go_wp2_with (go_at_call 144;refine (HG _).mono ?_;rintro e w' ⟨rfl,rfl⟩)
  go_ret;exact ⟨CN HC.out,rfl⟩
end
end Go.Proofs.YtamhnffokoejjaaGreatDoor
