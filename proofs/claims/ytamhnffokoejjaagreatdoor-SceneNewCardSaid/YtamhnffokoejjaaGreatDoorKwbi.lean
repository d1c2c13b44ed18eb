import Derived.Test.YtamhnffokoejjaaGreatDoorKwaw
import Derived.Test.YtamhnffokoejjaaGreatDoorKwbe
set_option linter.all false
namespace Go.Proofs.YtamhnffokoejjaaGreatDoor
open List(getElem_mem drop_take nil_append getElem?_cons_succ reverse_cons length_reverse getElem?_eq_none)
open Go.RowKit
section
variable{a b r:Aa}{m n s:Int}{S:List Int}{e f:Nat}
def LG(r:Aa)(i:Nat):Nat:=(AM (r.take i)).length
def Cu(r:Aa):List Int:=(List.range r.length).map fun i=>(LG r (i+1):Int)
theorem Bz(r:Aa):(Cu r).length=r.length:=by simp[Cu]
def KT(r:Aa):Prop:=∀x∈r,CY x=true
theorem Mx(hg:∀s∈S,BL s=true)(hl:S.length<=16777216):KT (BM S):=fun x hx=>by
 obtain ⟨h1,h2,h3⟩:=Hv hg x hx;unfold CY;rw[h3,Bool.and_true,decide_eq_true_iff];omega
theorem Mj(h:KT r){i:Nat}(hi:i<r.length):(LG r (i+1):Int)=LG r i+r[i].1:=by
 unfold LG;have hf:=h _ (getElem_mem hi);rw[List.take_succ_eq_append_getElem hi,Bw,List.length_append,Cr,GK,List.append_nil];have:=FG (r:=r[i])
 rw[if_pos hf]at this;omega
theorem sN(r:Aa)(i:Nat):LG r i<=(AM r).length:=by
 unfold LG
 conv=>rhs;rw[<-List.take_append_drop i r]
 rw[Bw,List.length_append];omega
theorem mp(r:Aa):LG r r.length=(AM r).length:=by unfold LG;rw[List.take_length]
theorem Zk(h:KT r){i:Nat}(hi:i<r.length):LG r i<LG r (i+1):=by
 have:=Mj h hi
 have:=(Cz (h _ (getElem_mem hi))).1
 omega
theorem VZ{r:Aa}(h:KT r):∀{i j:Nat},i<=j->j<=r.length->LG r i<=LG r j
 |i,0,hi,_=>by rw[Nat.le_zero.1 hi];exact Nat.le_refl _
 |i,j+1,hi,hj=>by
  by_cases e:i=j+1
  ·rw[e];exact Nat.le_refl _
  ·exact Nat.le_trans (VZ h AD AD) (Nat.le_of_lt (Zk h AD))
theorem mh(h:KT r){i:Nat}(hi:i<r.length){f e:Nat}(h1:LG r i<=f)(h2:f<=e)(h3:e<=LG r (i+1)):Bt (AM r) f e=List.replicate (e-f) r[i].2:=by
 have hs:=Mj h hi;have hf:=h _ (getElem_mem hi);have ho:=(Cz hf).1;have e1:AM r=AM (r.take i)++(List.replicate r[i].1.toNat r[i].2++AM (r.drop (i+1))):=by
  conv=>lhs;rw[<-List.take_append_drop i r,List.drop_eq_getElem_cons hi]
  rw[Bw,Cr];unfold DY;rw[if_pos hf]
 have hl:(AM (r.take i)).length=LG r i:=rfl;unfold Bt;rw[e1,Int.toNat_natCast,Int.toNat_natCast,drop_take,List.drop_append,hl,List.drop_of_length_le AD,nil_append,List.drop_append_of_le_length (by rw[List.length_replicate];omega),List.drop_replicate,List.take_append_of_le_length (by rw[List.length_replicate];omega),List.take_replicate]
 congr 1
 omega
theorem cd{m:Nat}(h1:f<=m)(h2:m<=e):Bt S f m++Bt S m e=Bt S f e:=by
 unfold Bt;simp only[Int.toNat_natCast];rw[drop_take,drop_take,drop_take,show e-f=(m-f)+(e-m) by omega,List.take_add,List.drop_drop,show f+(m-f)=m by omega]
theorem N3(h:e<=S.length):(Bt S f e).length=e-f:=by
 unfold Bt;rw[List.length_drop,List.length_take];omega
theorem jS(S:List Int)(f:Int):Bt S f f=[]:=by
 unfold Bt;apply List.drop_of_length_le
 rw[List.length_take];omega
theorem Vm{Q:Aa}(h:KT r){i:Nat}(hi:i<r.length){f0 f e:Nat}(hq:AM Q=Bt (AM r) f0 f)(h0:f0<=f)(h1:LG r i<=f)(h2:f<e)(h3:e<=LG r (i+1)):AM (Q++[((e:Int)-f,r[i].2)])=Bt (AM r) f0 e:=by
 have hs:=Mj h hi;obtain ⟨g1,g2,g3⟩:=Cz (h _ (getElem_mem hi));rw[Bw,hq,<-cd h0 (Nat.le_of_lt h2),mh h hi h1 (Nat.le_of_lt h2) h3,Cr,GK,List.append_nil];unfold DY;rw[if_pos (by unfold CY;rw[g3,Bool.and_true,decide_eq_true_iff];omega)]
 congr 2
 omega
def pre:List Int->List Int->Nat
 |x::a,y::b=>if x=y then pre a b+1 else 0
 |_,_=>0
theorem T8:∀a b:List Int,pre a b<=a.length/\pre a b<=b.length
 |[],b=>by simp[pre]
 |x::a,[]=>by simp[pre]
 |x::a,y::b=>by
  have:=T8 a b
  unfold pre;split
  ·simp;omega
  ·simp
theorem Ig:∀(a b:List Int) (p:Nat),p<pre a b->a[p]?=b[p]?
 |[],b,p,h=>by simp[pre]at h
 |x::a,[],p,h=>by simp[pre]at h
 |x::a,y::b,p,h=>by
  unfold pre at h;split at h
  ·rename_i e
   cases p with
   |zero=>rw[e];rfl
   |succ p=>
    rw[getElem?_cons_succ,getElem?_cons_succ];exact Ig a b p AD
  ·omega
theorem NT:∀(a b:List Int),pre a b<a.length->pre a b<b.length->a[pre a b]?≠b[pre a b]?
 |[],b,h,_=>by simp at h
 |x::a,[],_,h=>by simp at h
 |x::a,y::b,h,k=>by
  unfold pre at h k ⊢;split
  ·rename_i e
   rw[if_pos e]at h k;rw[getElem?_cons_succ,getElem?_cons_succ];exact NT a b (by simpa using h) (by simpa using k)
  ·rename_i e
   simpa using e
def DE:Aa->Aa->Int
 |(n,s)::a,(m,t)::b=>if s≠t then 0 else min n m+(if n≠m then 0 else DE a b)
 |_,_=>0
theorem Cs:DE ((n,s)::a) ((m,s)::b)=min n m+(if n≠m then 0 else DE a b):=by
 show (if s≠s then (0:Int) else _)=_
 rw[if_neg Ar]
theorem Kf{t:Int}(h:s≠t):DE ((n,s)::a) ((m,t)::b)=0:=by
 show (if s≠t then (0:Int) else _)=_
 rw[if_pos h]
def ry(r:Aa):Prop:=∀x∈r,1<=x.1
theorem X0(x:Int):∀(A B:Aa),ry A->ry B->DE (Bj x A) (Bj x B)=1+DE A B
 |[],[],_,_=>by rw[G4,Cs];simp[DE]
 |[],(m,t)::B,_,hb=>by
  have h1:=hb (m,t) Ar;rw[G4,BV];by_cases h:t=x
  ·subst h;rw[if_pos rfl,Cs,if_pos AD];simp[DE];omega
  ·rw[if_neg h,Cs];simp[DE]
 |(n,s)::A,[],ha,_=>by
  have h1:=ha (n,s) Ar;rw[G4,BV];by_cases h:s=x
  ·subst h;rw[if_pos rfl,Cs,if_pos AD];simp[DE];omega
  ·rw[if_neg h,Cs];simp[DE]
 |(n,s)::A,(m,t)::B,ha,hb=>by
  have h1:=ha (n,s) Ar;have h2:=hb (m,t) Ar;rw[BV,BV];by_cases h:s=x
  ·subst h;by_cases k:t=s
   ·subst k;rw[if_pos rfl,if_pos rfl,Cs,Cs];by_cases e:n=m
    ·rw[if_neg AD,if_neg AD];omega
    ·rw[if_pos AD,if_pos e];omega
   ·rw[if_pos rfl,if_neg k,Cs,if_pos AD,Kf (fun q=>k q.symm)];omega
  ·by_cases k:t=x
   ·subst k;rw[if_neg h,if_pos rfl,Cs,if_pos AD,Kf h];omega
   ·rw[if_neg h,if_neg k,Cs,if_neg Ar];omega
theorem PN:∀l:List Int,ry (BM l)
 |[]=>fun x h=>by cases h
 |s::l=>fun x h=>by
  have ih:=PN l;have h':x∈Bj s (BM l):=h
  cases hr:BM l with
  |nil=>
   rw[hr,G4]at h';rcases List.mem_singleton.1 h' with rfl;exact Int.le_refl _
  |cons q r=>
   obtain ⟨n,t⟩:=q;rw[hr]at h' ih;have h1:=ih (n,t) Ar;rw[BV]at h';split at h'
   ·rcases List.mem_cons.1 h' with rfl|h'
    ·exact (by omega:1<=n+1)
    ·exact ih x (List.mem_cons_of_mem _ h')
   ·rcases List.mem_cons.1 h' with rfl|h'
    ·exact Int.le_refl _
    ·exact ih x h'
theorem P_:∀a b:List Int,DE (BM a) (BM b)=pre a b
 |[],b=>by simp[BM,DE,pre]
 |x::a,[]=>by
  show DE _ []=_
  cases BM (x::a) with
  |nil=>simp[DE,pre]
  |cons q r=>obtain ⟨n,t⟩:=q;simp[DE,pre]
 |x::a,y::b=>by
  unfold pre;by_cases e:x=y
  ·subst e;rw[if_pos rfl];show DE (Bj x (BM a)) (Bj x (BM b))=_
   rw[X0 x _ _ (PN a) (PN b),P_ a b];omega
  ·rw[if_neg e];obtain ⟨n,r,h1,_⟩:=Kn x a;obtain ⟨m,t,h2,_⟩:=Kn y b;rw[h1,h2,Kf e];rfl
theorem NY(n x:Int)(q:Int × Int):∀M:Aa,Eh (M++[q]) (n,x)=M++(if q.2=x then [(q.1+n,q.2)] else [q,(n,x)])
 |[]=>by
  show Eh [q] (n,x)=_
  unfold Eh;split <;> rfl
 |[p]=>by
  show Eh (p::q::[]) (n,x)=_
  unfold Eh;have:=NY n x q []
  rw[nil_append,nil_append]at this;rw[this];rfl
 |p::p2::M=>by
  have:=NY n x q (p2::M)
  show p::Eh (p2::M++[q]) (n,x)=_
  rw[this];rfl
theorem Rf(x:Int):∀r:Aa,(Bj x r).reverse=Eh r.reverse (1,x)
 |[]=>rfl
 |(n,t)::r=>by
  rw[BV,reverse_cons,NY];by_cases h:t=x
  ·rw[if_pos h,if_pos h,reverse_cons]
  ·rw[if_neg h,if_neg h,reverse_cons,reverse_cons,List.append_assoc];rfl
theorem KM:∀l:List Int,(BM l).reverse=BM l.reverse
 |[]=>rfl
 |x::l=>by
  show (Bj x (BM l)).reverse=_
  rw[Rf,KM l,reverse_cons];exact (Tz x 0 l.reverse).symm
theorem Mk{a b:List Int}(hl:a.length=b.length)(h:pre a b<a.length):
 pre a b<=a.length-1-pre a.reverse b.reverse/\pre a.reverse b.reverse<a.length/\(∀p:Nat,p<pre a b\/a.length-1-pre a.reverse b.reverse<p->a[p]?=b[p]?)/\a[pre a b]?≠b[pre a b]?/\a[a.length-1-pre a.reverse b.reverse]?≠b[a.length-1-pre a.reverse b.reverse]?:=by
 have h1:=T8 a.reverse b.reverse;rw[length_reverse,length_reverse]at h1;have rev:∀p,p<a.length->(a[p]?=b[p]?↔a.reverse[a.length-1-p]?=b.reverse[a.length-1-p]?):=by
  intro p hp;rw[List.getElem?_reverse AD,List.getElem?_reverse AD,show a.length-1-(a.length-1-p)=p by omega,show b.length-1-(a.length-1-p)=p by omega]
 have h2:=NT a b h AD;have h3:pre a.reverse b.reverse<a.length:=by
  rcases Nat.lt_or_ge (pre a.reverse b.reverse) a.length with q|q
  ·exact q
  ·exfalso;apply h2
   rw[rev _ h];exact Ig _ _ _ AD
 have h4:=NT a.reverse b.reverse (by rw[length_reverse];exact h3) (by rw[length_reverse];omega);have h5:a[a.length-1-pre a.reverse b.reverse]?≠b[a.length-1-pre a.reverse b.reverse]?:=by
  intro q;rw[rev _ AD,show a.length-1-(a.length-1-pre a.reverse b.reverse)=pre a.reverse b.reverse by omega]at q;exact h4 q
 refine ⟨?_,h3,fun p hp=>?_,h2,h5⟩
 ·rcases Nat.lt_or_ge (a.length-1-pre a.reverse b.reverse) (pre a b) with q|q
  ·exact absurd (Ig a b _ q) h5
  ·exact q
 ·rcases hp with q|q
  ·exact Ig a b p q
  ·rcases Nat.lt_or_ge p a.length with k|k
   ·rw[rev p k];exact Ig _ _ _ AD
   ·rw[getElem?_eq_none AD,getElem?_eq_none AD]
theorem nN{a b:List Int}(hl:a.length=b.length)(h:pre a b=a.length):a=b:=by
 apply List.ext_getElem?
 intro p;rcases Nat.lt_or_ge p a.length with k|k
 ·exact Ig a b p AD
 ·rw[getElem?_eq_none k,getElem?_eq_none AD]
end
end Go.Proofs.YtamhnffokoejjaaGreatDoor
