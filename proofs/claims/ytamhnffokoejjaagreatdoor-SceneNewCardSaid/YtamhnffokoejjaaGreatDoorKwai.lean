import Derived.Deep.LoopGhost
import Derived.Test.YtamhnffokoejjaaGreatDoorChecked
import Derived.Test.YtamhnffokoejjaaGreatDoorKwae
set_option linter.all false
set_option maxHeartbeats 3200000
set_option maxRecDepth 100000
namespace Go.Proofs.YtamhnffokoejjaaGreatDoor
open List(any_eq_true mem_cons_self length_cons getElem?_cons_succ getElem?_eq_getElem length_append length_singleton mem_cons not_mem_nil length_take)
open Nat(le_refl)
open Go.Proofs.Tryz
section
variable{b:Int × Int}
abbrev Au:=List (Int × Int)
def C9(L:Au)(y:Int):Bool:=L.any fun b=>decide (b.1<=y/\y<b.2/\ -1073741824<=y/\y<1073741824)
def CK(L:Au):Prop:=(∀b∈L,-1073741824<=b.1/\b.1<b.2/\b.2<=1073741824)/\L.Pairwise fun b c=>b.2<c.1
theorem Ou{L:Au}{y:Int}:C9 L y=true↔∃b∈L,b.1<=y/\y<b.2/\ -1073741824<=y/\y<1073741824:=by
 unfold C9;rw[any_eq_true];simp
theorem IF(y:Int):C9 [] y=false:=rfl
theorem Ce(b:Int × Int)(L:Au)(y:Int):C9 (b::L) y=(decide (b.1<=y/\y<b.2/\ -1073741824<=y/\y<1073741824) || C9 L y):=rfl
theorem Fy(A B:Au)(y:Int):C9 (A++B) y=(C9 A y || C9 B y):=by unfold C9;rw[List.any_append]
theorem CK.nil:CK []:=⟨Ar,List.Pairwise.nil⟩
theorem CK.tail{L:Au}(h:CK (b::L)):CK L:=⟨fun c hc=>h.1 c (List.mem_cons_of_mem _ hc),(List.pairwise_cons.1 h.2).2⟩
theorem CK.behind{L:Au}(h:CK (b::L)){y:Int}(hy:C9 L y=true):b.2<y:=by
 obtain ⟨c,hc,h1,_⟩:=Ou.1 hy;have:=(List.pairwise_cons.1 h.2).1 c hc
 omega
theorem CK.first{L:Au}(h:CK (b::L)):C9 (b::L) b.1=true:=by
 have:=h.1 b mem_cons_self
 rw[Ce];simp;left;omega
theorem CK.lower{L:Au}(h:CK (b::L)){y:Int}(hy:C9 (b::L) y=true):b.1<=y:=by
 have hb:=h.1 b mem_cons_self;rw[Ce]at hy;rcases Bool.or_eq_true_iff.1 hy with h1|h1
 ·have:=of_decide_eq_true h1;omega
 ·have:=h.behind h1;omega
theorem Ly:∀(X S:List Int),X.Pairwise (· < ·)->(∀x∈X,x∈S)->X.length<=S.length
 |[],_,_,_=>Nat.zero_le _
 |x::X,S,hp,hs=>by
  have hx:x∈S:=hs x mem_cons_self;obtain ⟨h1,h2⟩:=List.pairwise_cons.1 hp;have ih:=Ly X (S.erase x) h2 (fun z hz=>(List.mem_erase_of_ne (by have:=h1 z hz;omega)).2 (hs z (List.mem_cons_of_mem _ hz)));rw[List.length_erase_of_mem hx]at ih;have:0<S.length:=List.length_pos_of_mem hx
  simp only[length_cons];omega
theorem CK.ahead:∀{T:Au},CK T->∀b∈T,C9 T b.1=true/\C9 T (b.1-1)=false
 |[],_,_,hb=>by cases hb
 |a::T,h,b,hb=>by
  have ha:=h.1 a mem_cons_self;rcases List.mem_cons.1 hb with rfl|Rh
  ·refine ⟨h.first,?_⟩
   cases hi:C9 (b::T) (b.1-1) with
   |false=>rfl
   |true=>have:=h.lower hi;omega
  ·obtain ⟨k1,k2⟩:=CK.ahead h.tail b Rh;have sD:=(List.pairwise_cons.1 h.2).1 b Rh;refine ⟨by rw[Ce,k1,Bool.or_true],?_⟩;rw[Ce,k2,Bool.or_false];exact decide_eq_false AD
theorem kY{T:Au}(h:CK T)(S:List Int)(hs:∀s,C9 T s=true->C9 T (s-1)=false->s∈S):T.length<=S.length:=by
 have:=Ly (T.map (·.1)) S (by
  rw[List.pairwise_map];refine h.2.imp_of_mem ?_;intro a b ha hb sD;have:=h.1 a ha
  omega) (by
  intro x hx;obtain ⟨b,hb,rfl⟩:=List.mem_map.1 hx;obtain ⟨h1,h2⟩:=h.ahead b hb;exact hs _ h1 h2)
 simpa using this
theorem dN{l:Au}{s:Int}(h:C9 l s=true)(h1:C9 l (s-1)=false):s∈ -1073741824::l.map (·.1):=by
 obtain ⟨b,hb,h2,h3,h4,h5⟩:=Ou.1 h;by_cases hs:s= -1073741824
 ·rw[hs];exact mem_cons_self
 ·by_cases Iz:s=b.1
  ·rw[Iz];exact List.mem_cons_of_mem _ (List.mem_map.2 ⟨b,hb,rfl⟩)
  ·have:C9 l (s-1)=true:=Ou.2 ⟨b,hb,AD,AD,AD,AD⟩
   rw[h1]at this;cases this
theorem O0{T l:Au}(h:CK T)(hr:∀y,C9 T y=C9 l y):T.length<=l.length+1:=by
 have:=kY h (-1073741824::l.map (·.1)) (fun s h1 h2=>dN (by rw[<-hr];exact h1) (by rw[<-hr];exact h2))
 simpa using this
end
end Go.Proofs.YtamhnffokoejjaaGreatDoor
namespace Go.Proofs.YtamhnffokoejjaaGreatDoor
open List(any_eq_true mem_cons_self length_cons getElem?_cons_succ getElem?_eq_getElem length_append length_singleton mem_cons not_mem_nil length_take)
open Nat(le_refl)
open Go.Proofs.Tryz
open Go.RowKit
section
variable{B:Nat}{v:Value}{w w':World}
def RB(w:World)(v:Value)(l:Au):Prop:=∃(A:Option Addr) (cap:Nat),v=.slice A l.length cap/\l.length<=cap/\(0<l.length->∃b off,A=some ⟨b,off,none⟩/\b<w.heap.size/\∀(j:Nat) (h:j<l.length),w.cell? ⟨b,off+j*2,none⟩=some (.int .i64 l[j].1)/\w.cell? ⟨b,off+j*2+1,none⟩=some (.int .i64 l[j].2))
theorem RB.later{l:Au}(h:RB w v l)(ha:AA w w'):RB w' v l:=by
 obtain ⟨A,cap,h1,h2,h3⟩:=h;refine ⟨A,cap,h1,h2,fun h0=>?_⟩;obtain ⟨b,off,e,hb,hc⟩:=h3 h0;exact ⟨b,off,e,Nat.lt_of_lt_of_le hb ha.below.size,fun j hj=>⟨(ha.below.cell hb).trans (hc j hj).1,(ha.below.cell hb).trans (hc j hj).2⟩⟩
def Da(l:Au):List Value:=l.flatMap fun b=>[.int .i64 b.1,.int .i64 b.2]
theorem SN:Da []=[]:=rfl
theorem MN(b:Int × Int)(l:Au):Da (b::l)=.int .i64 b.1::.int .i64 b.2::Da l:=rfl
theorem Fa(a b:Au):Da (a++b)=Da a++Da b:=by unfold Da;rw[List.flatMap_append]
theorem FY:∀l:Au,(Da l).length=l.length*2
 |[]=>rfl
 |b::l=>by rw[MN,length_cons,length_cons,FY l,length_cons];omega
theorem Kv:∀(l:Au) (j:Nat),(Da l)[j*2]?=(l[j]?).map fun b=>.int .i64 b.1
 |[],j=>by simp[SN]
 |b::l,0=>rfl
 |b::l,j+1=>by
  rw[MN,show (j+1)*2=j*2+1+1 by omega,getElem?_cons_succ,getElem?_cons_succ,Kv l j,getElem?_cons_succ]
theorem LH:∀(l:Au) (j:Nat),(Da l)[j*2+1]?=(l[j]?).map fun b=>.int .i64 b.2
 |[],j=>by simp[SN]
 |b::l,0=>rfl
 |b::l,j+1=>by
  rw[MN,show (j+1)*2+1=j*2+1+1+1 by omega,getElem?_cons_succ,getElem?_cons_succ,LH l j,getElem?_cons_succ]
theorem cX(l:Au):∀u∈Da l,u.oneCell'=true:=by
 intro u hu;obtain ⟨b,_,hb⟩:=List.mem_flatMap.1 hu;rcases List.mem_cons.1 hb with rfl|hb
 ·rfl
 ·rcases List.mem_cons.1 hb with rfl|hb
  ·rfl
  ·cases hb
def OB(w:World)(B:Nat)(v:Value)(l:Au):Prop:=w.ownsRow B 170 2 v l.length (Da l)
theorem OB.reads{l:Au}(h:OB w B v l):RB w v l:=by
 rcases h.2 with ⟨rfl,h0⟩|⟨g,cap,cur,rfl,h2,h3,h4,h5,h6,h7⟩
 ·refine ⟨none,0,by rw[h0],AD,fun hp=>by omega⟩
 ·refine ⟨some ⟨g,0,none⟩,cap,rfl,h4,fun _=>⟨g,0,rfl,As h3,fun j hj=>?_⟩⟩;have e:∀k,k<l.length*2->cur[k]?=(Da l)[k]?:=fun k hk=>by
   have:(cur.toList.take (l.length*2))[k]?=(Da l)[k]?:=by rw[h7]
   rw[List.getElem?_take_of_lt hk]at this;simpa using this
  rw[Nat.zero_add,AE h3,AE h3,e _ AD,e _ AD,Kv,LH,getElem?_eq_getElem hj];exact ⟨rfl,rfl⟩
theorem OB.later{l:Au}(h:OB w B v l)(ha:AA w w'):OB w' B v l:=GG ha h
theorem RB.cells{b off:Nat}{l:Au}(ha:AA w w')(hb:0<l.length->b<w.heap.size)(hc:∀(j:Nat) (h:j<l.length),w.cell? ⟨b,off+j*2,none⟩=some (.int .i64 l[j].1)/\w.cell? ⟨b,off+j*2+1,none⟩=some (.int .i64 l[j].2)):
 ∀(j:Nat) (u:Value),(Da l)[j]?=some u->w'.cell? ((⟨b,off,none⟩:Addr).add j)=some u:=by
 intro j u hu;have rC:(⟨b,off,none⟩:Addr).add j=⟨b,off+j,none⟩:=by unfold Addr.add;split <;> simp_all
 have hj:j<l.length*2:=by
  rcases Nat.lt_or_ge j (l.length*2) with h|h
  ·exact h
  ·rw[List.getElem?_eq_none (by rw[FY];exact h)]at hu;cases hu
 have hk:j/2<l.length:=AD;rw[rC,ha.below.cell (hb AD)];rcases Nat.mod_two_eq_zero_or_one j with hm|hm
 ·have e:j=j/2*2:=AD;rw[e]at hu ⊢;rw[Kv,getElem?_eq_getElem hk]at hu;rw[(hc _ hk).1];exact hu
 ·have e:j=j/2*2+1:=AD;rw[e]at hu ⊢;rw[LH,getElem?_eq_getElem hk]at hu;rw[<-Nat.add_assoc,(hc _ hk).2];exact hu
theorem Iy:(prog.info? 170).map (fun i=>(i.zero,i.size,i.bytes))=some (some (.agg #[.int .i64 0,.int .i64 0]),2,16):=AY
def x_(W:World)(f:Int->Bool)(e:Ending)(w':World):Prop:=∃v T,e=.returned v/\AA W w'/\RB w' v T/\CK T/\∀y,C9 T y=f y
def l6(w:World)(v:Value)(l:Au):Prop:=RB w v l/\∀b,vblk v=some b->∃cs,w.heap[b]?=some (.cells cs 170)
theorem l6.later{l:Au}(h:l6 w v l)(a:AA w w'):l6 w' v l:=⟨h.1.later a,fun b hb=>by
 obtain ⟨cs,hc⟩:=h.2 b hb;exact ⟨cs,AB a hc⟩⟩
theorem OB.yu{l:Au}(h:OB w B v l):l6 w v l:=⟨h.reads,fun b hb=>by
 rcases h.2 with ⟨rfl,_⟩|⟨g,cap,cur,rfl,h2,h3,_⟩
 ·cases hb
 ·cases hb;exact ⟨_,h3⟩⟩
def SZ(W:World)(f:Int->Bool)(e:Ending)(w':World):Prop:=∃v T,e=.returned v/\AA W w'/\l6 w' v T/\CK T/\∀y,C9 T y=f y
theorem SZ.told{W:World}{f:Int->Bool}{e:Ending}(h:SZ W f e w'):x_ W f e w':=by
 obtain ⟨v,T,h1,h2,h3,h4⟩:=h;exact ⟨v,T,h1,h2,h3.1,h4⟩
theorem RB.block{g cap:Nat}{cur:Array Value}{l:Au}(h:w.heap[g]?=some (.cells cur 170))(hc:cur.toList=Da l)(hl:l.length<=cap):RB w (.slice (some ⟨g,0,none⟩) l.length cap) l:=by
 refine ⟨some ⟨g,0,none⟩,cap,rfl,hl,fun _=>⟨g,0,rfl,As h,fun j hj=>?_⟩⟩;have e:∀k,cur[k]?=(Da l)[k]?:=fun k=>by rw[<-hc,Array.getElem?_toList]
 rw[Nat.zero_add,AE h,AE h,e,e,Kv,LH,getElem?_eq_getElem hj];exact ⟨rfl,rfl⟩
end
end Go.Proofs.YtamhnffokoejjaaGreatDoor
namespace Go.Proofs.YtamhnffokoejjaaGreatDoor
open List(any_eq_true mem_cons_self length_cons getElem?_cons_succ getElem?_eq_getElem length_append length_singleton mem_cons not_mem_nil length_take)
open Nat(le_refl)
open Go.Proofs.Tryz
section
variable{hi lo n:Int}{k:Int × Int}{j:Nat}
def TY(n lo hi:Int):Int:=if n<lo\/hi<lo then lo else if hi<n then hi else n
def Q9(b:Int × Int)(f t:Int):Int × Int:=(TY b.1 f t,TY b.2 f t)
def D5(b:Int × Int):Int × Int:=Q9 b (-1073741824) 1073741824
theorem Ti(h:lo<=hi):lo<=TY n lo hi/\TY n lo hi<=hi:=by unfold TY;split;omega;split <;> omega
theorem WY{m y:Int}:(TY n lo hi<=y/\y<TY m lo hi)↔(n<=y/\y<m/\lo<=y/\y<hi):=by
 unfold TY;split
 ·split
  ·omega
  ·split <;> omega
 ·split
  ·split
   ·omega
   ·split <;> omega
  ·split
   ·omega
   ·split <;> omega
theorem fB(b:Int × Int)(y:Int):((D5 b).1<=y/\y<(D5 b).2)↔(b.1<=y/\y<b.2/\ -1073741824<=y/\y<1073741824):=WY
theorem aP(b:Int × Int): -1073741824<=(D5 b).1/\(D5 b).1<=1073741824/\ -1073741824<=(D5 b).2/\(D5 b).2<=1073741824:=by
 have h1:=Ti (n:=b.1) (lo:= -1073741824) (hi:=1073741824) AD;have h2:=Ti (n:=b.2) (lo:= -1073741824) (hi:=1073741824) AD;exact ⟨h1.1,h1.2,h2.1,h2.2⟩
def Full(L:Au):Prop:=∀b∈L,-1073741824<=b.1/\b.1<b.2/\b.2<=1073741824
theorem lW{L:Au}(h:Full L)(y:Int):C9 L y=L.any fun b=>decide (b.1<=y/\y<b.2):=by
 unfold C9;rw[Bool.eq_iff_iff,any_eq_true,any_eq_true];constructor
 ·rintro ⟨b,hb,hy⟩;have:=of_decide_eq_true hy
  exact ⟨b,hb,decide_eq_true ⟨this.1,this.2.1⟩⟩
 ·rintro ⟨b,hb,hy⟩;have:=of_decide_eq_true hy
  have:=h b hb
  exact ⟨b,hb,decide_eq_true AD⟩
structure Eo(L:Au)(j:Nat)(K:Au):Prop where
 len:K.length<=j
 MS:CK K
 rows:∀y,C9 K y=C9 (L.take j) y
 low:∀b∈K,∀(i:Nat) (h:i<L.length),j<=i->b.1<=L[i].1
def UA(L:Au):Prop:=∀(i j:Nat) (hj:j<L.length) (Fr:i<j),(L[i]'(Nat.lt_trans Fr hj)).1<=L[j].1
theorem Eo.zero(L:Au):Eo L 0 []:=⟨le_refl _,CK.nil,fun y=>by rw[List.take_zero],Ar⟩
theorem VE{L:Au}(h:j<L.length)(y:Int):C9 (L.take (j+1)) y=(C9 (L.take j) y || decide (L[j].1<=y/\y<L[j].2/\ -1073741824<=y/\y<1073741824)):=by
 rw[List.take_succ_eq_append_getElem h,Fy,Ce,IF,Bool.or_false]
theorem Eo.fresh{L K:Au}(m:Eo L j K)(hj:j<L.length)(hf:Full L)(hs:UA L)(hk:∀b∈K,b.2<L[j].1):Eo L (j+1) (K++[L[j]]):=by
 refine ⟨by rw[length_append,length_singleton];have:=m.len;omega,⟨?_,?_⟩,?_,?_⟩
 ·intro b hb;rcases List.mem_append.1 hb with hb|hb
  ·exact m.MS.1 b hb
  ·obtain rfl:=List.mem_singleton.1 hb
   exact hf _ (List.getElem_mem hj)
 ·rw[List.pairwise_append];refine ⟨m.MS.2,List.pairwise_singleton _ _,fun a ha b hb=>?_⟩;obtain rfl:=List.mem_singleton.1 hb
  exact hk a ha
 ·intro y;rw[Fy,Ce,IF,Bool.or_false,VE hj,m.rows]
 ·intro b hb i hi Lw;rcases List.mem_append.1 hb with hb|hb
  ·exact m.low b hb i hi AD
  ·obtain rfl:=List.mem_singleton.1 hb
   exact hs j i hi AD
theorem Eo.more{L K:Au}(m:Eo L j (K++[k]))(hj:j<L.length)(hf:Full L)(hk:L[j].1<=k.2)(v:Int)(hv:k.2<=v/\L[j].2<=v/\(v<=k.2\/v<=L[j].2)):Eo L (j+1) (K++[(k.1,v)]):=by
 have q_:k∈K++[k]:=Ar;have h0:=m.MS.1 k q_;have h1:=hf _ (List.getElem_mem hj);have h2:=m.low k q_ j hj (le_refl _);obtain ⟨p1,p2,p3⟩:=List.pairwise_append.1 m.MS.2;refine ⟨by have:=m.len;rw[length_append,length_singleton]at *;omega,⟨?_,?_⟩,?_,?_⟩
 ·intro b hb;rcases List.mem_append.1 hb with hb|hb
  ·exact m.MS.1 b (List.mem_append_left _ hb)
  ·obtain rfl:=List.mem_singleton.1 hb
   simp only
   omega
 ·rw[List.pairwise_append];refine ⟨p1,List.pairwise_singleton _ _,fun a ha b hb=>?_⟩;obtain rfl:=List.mem_singleton.1 hb
  exact p3 a ha k Ar
 ·intro y;have:=m.rows y
  rw[VE hj,<-this,Fy,Fy,Ce,Ce,IF,Bool.or_false,Bool.or_false,Bool.or_assoc]
  congr 1
  rw[Bool.eq_iff_iff,Bool.or_eq_true,decide_eq_true_eq,decide_eq_true_eq,decide_eq_true_eq];simp only
  omega
 ·intro b hb i hi Lw;rcases List.mem_append.1 hb with hb|hb
  ·exact m.low b (List.mem_append_left _ hb) i hi AD
  ·obtain rfl:=List.mem_singleton.1 hb
   exact m.low k q_ i hi AD
theorem CK.last{K:Au}(h:CK (K++[k])){x:Int}(hx:k.2<x):∀b∈K++[k],b.2<x:=by
 intro b hb;obtain ⟨_,_,p3⟩:=List.pairwise_append.1 h.2;rcases List.mem_append.1 hb with hb|hb
 ·have h1:=p3 b hb k Ar;have h2:=h.1 k Ar;omega
 ·obtain rfl:=List.mem_singleton.1 hb
  exact hx
def Dl:Au->Au->Au
 |[],_=>[]
 |_::_,[]=>[]
 |a::A,b::B=>(if (Q9 a b.1 b.2).1<(Q9 a b.1 b.2).2 then [Q9 a b.1 b.2] else [])++(if a.2<b.2 then Dl A (b::B) else Dl (a::A) B)
 termination_by A B=>A.length+B.length
theorem Nf(B:Au):Dl [] B=[]:=by unfold Dl;rfl
theorem MJ(A:Au):Dl A []=[]:=by cases A <;> (unfold Dl;rfl)
theorem ME(a b:Int × Int)(A B:Au):Dl (a::A) (b::B)=(if (Q9 a b.1 b.2).1<(Q9 a b.1 b.2).2 then [Q9 a b.1 b.2] else [])++(if a.2<b.2 then Dl A (b::B) else Dl (a::A) B):=by
 conv=>lhs;unfold Dl
theorem Z6(m:Int × Int)(h: -1073741824<=m.1/\m.2<=1073741824)(y:Int):C9 (if m.1<m.2 then [m] else []) y=decide (m.1<=y/\y<m.2):=by
 split
 ·rw[Ce,IF,Bool.or_false,decide_eq_decide];omega
 ·rw[IF];symm;exact decide_eq_false AD
theorem VX{m:Int × Int}{R:Au}(hR:CK R)(h:m.1<m.2-> -1073741824<=m.1/\m.2<=1073741824/\∀y,C9 R y=true->m.2<y):CK ((if m.1<m.2 then [m] else [])++R):=by
 split
 ·rename_i hm
  obtain ⟨h1,h2,h3⟩:=h hm;refine ⟨fun b hb=>?_,List.pairwise_cons.2 ⟨fun c hc=>?_,hR.2⟩⟩
  ·rcases List.mem_cons.1 hb with rfl|hb
   ·omega
   ·exact hR.1 b hb
  ·exact h3 c.1 (hR.ahead c hc).1
 ·exact hR
theorem Ma:∀(n:Nat) (A B:Au),A.length+B.length<=n->CK A->CK B->CK (Dl A B)/\∀y,C9 (Dl A B) y=(C9 A y && C9 B y)
 |_,[],B,_,_,_=>by rw[Nf];exact ⟨CK.nil,fun y=>by rw[IF,Bool.false_and]⟩
 |_,a::A,[],_,_,_=>by rw[MJ];exact ⟨CK.nil,fun y=>by rw[IF,Bool.and_false]⟩
 |0,a::A,b::B,hn,_,_=>by simp at hn
 |n+1,a::A,b::B,hn,hA,hB=>by
  have ha:=hA.1 a mem_cons_self;have hb:=hB.1 b mem_cons_self;have hm:∀y,((Q9 a b.1 b.2).1<=y/\y<(Q9 a b.1 b.2).2)↔(a.1<=y/\y<a.2/\b.1<=y/\y<b.2):=fun y=>WY
  have i1:b.1<=(Q9 a b.1 b.2).1/\(Q9 a b.1 b.2).1<=b.2:=Ti AD;have i2:b.1<=(Q9 a b.1 b.2).2/\(Q9 a b.1 b.2).2<=b.2:=Ti AD;have uR: -1073741824<=(Q9 a b.1 b.2).1/\(Q9 a b.1 b.2).2<=1073741824:=AD;generalize tQ:Q9 a b.1 b.2=m at *;rw[ME,tQ];simp only[length_cons]at hn;by_cases BN:a.2<b.2
  ·rw[if_pos BN];obtain ⟨g,r⟩:=Ma n A (b::B) (by simp only[length_cons];omega) hA.tail hB;refine ⟨VX g fun hf=>⟨uR.1,uR.2,fun y hy=>?_⟩,fun y=>?_⟩
   ·rw[r,Bool.and_eq_true]at hy;have h1:=hA.behind hy.1;have h2:=(hm (m.2-1)).1 AD;omega
   ·rw[Fy,Z6 _ uR,r,Ce a A]
    cases hAy:C9 A y with
    |true=>
     have h1:=hA.behind hAy;have e:decide (m.1<=y/\y<m.2)=false:=decide_eq_false (fun h=>by have:=(hm y).1 h;omega);rw[e,Bool.false_or,Bool.or_true]
    |false=>
     rw[Bool.false_and,Bool.or_false,Bool.or_false,Ce]
     cases hBy:C9 B y with
     |true=>
      have h1:=hB.behind hBy;have e:decide (m.1<=y/\y<m.2)=false:=decide_eq_false (fun h=>by have:=(hm y).1 h;omega);have e2:decide (a.1<=y/\y<a.2/\ -1073741824<=y/\y<1073741824)=false:=decide_eq_false AD;rw[e,e2,Bool.false_and]
     |false=>
      rw[Bool.or_false,<-Bool.decide_and,decide_eq_decide,hm];omega
  ·rw[if_neg BN];obtain ⟨g,r⟩:=Ma n (a::A) B (by simp only[length_cons];omega) hA hB.tail;refine ⟨VX g fun hf=>⟨uR.1,uR.2,fun y hy=>?_⟩,fun y=>?_⟩
   ·rw[r,Bool.and_eq_true]at hy;have h1:=hB.behind hy.2;omega
   ·rw[Fy,Z6 _ uR,r,Ce b B]
    cases hBy:C9 B y with
    |true=>
     have h1:=hB.behind hBy;have e:decide (m.1<=y/\y<m.2)=false:=decide_eq_false (fun h=>by have:=(hm y).1 h;omega);rw[e,Bool.false_or,Bool.or_true]
    |false=>
     rw[Bool.and_false,Bool.or_false,Bool.or_false,Ce]
     cases hAy:C9 A y with
     |true=>
      have h1:=hA.behind hAy;have e:decide (m.1<=y/\y<m.2)=false:=decide_eq_false (fun h=>by have:=(hm y).1 h;omega);have e2:decide (b.1<=y/\y<b.2/\ -1073741824<=y/\y<1073741824)=false:=decide_eq_false AD;rw[e,e2,Bool.and_false]
     |false=>
      rw[Bool.or_false,<-Bool.decide_and,decide_eq_decide,hm];omega
theorem Nx:∀(n:Nat) (A B:Au),A.length+B.length<=n->(Dl A B).length<=A.length+B.length
 |_,[],B,_=>by rw[Nf];simp
 |_,a::A,[],_=>by rw[MJ];simp
 |0,a::A,b::B,hn=>by simp at hn
 |n+1,a::A,b::B,hn=>by
  simp only[length_cons]at hn;rw[ME,length_append];have h1:(if (Q9 a b.1 b.2).1<(Q9 a b.1 b.2).2 then [Q9 a b.1 b.2] else []).length<=1:=by split <;> simp
  have h2:=Nx n A (b::B) (by simp only[length_cons];omega);have h3:=Nx n (a::A) B (by simp only[length_cons];omega);have h4:(if a.2<b.2 then Dl A (b::B) else Dl (a::A) B).length<=A.length+B.length+1:=by
   simp only[length_cons]at h2 h3;split <;> omega
  simp only[length_cons];omega
def GO(f:Int):Au->Au
 |[]=>[(f,1073741824)]
 |b::T=>(f,b.1)::GO b.2 T
theorem TE(f:Int):∀T:Au,(GO f T).length=T.length+1
 |[]=>rfl
 |b::T=>by unfold GO;rw[length_cons,TE,length_cons]
theorem PI:∀(T:Au) (f:Int),CK T-> -1073741824<=f/\f<=1073741824->(∀b∈T,f<=b.1)->∀y,C9 (GO f T) y=(decide (f<=y/\y<1073741824) && !C9 T y)
 |[],f,_,hf,_,y=>by
  rw[GO,Ce,IF,Bool.or_false,Bool.not_false,Bool.and_true,decide_eq_decide];simp only
  omega
 |b::T,f,hT,hf,hl,y=>by
  have hb:=hT.1 b mem_cons_self;have h1:=hl b mem_cons_self;rw[GO,Ce,PI T b.2 hT.tail AD (fun c hc=>by have:=(List.pairwise_cons.1 hT.2).1 c hc;omega),Ce];simp only
  cases hTy:C9 T y with
  |true=>
   have:=hT.behind hTy
   have e:decide (f<=y/\y<b.1/\ -1073741824<=y/\y<1073741824)=false:=decide_eq_false AD;rw[e,Bool.or_true,Bool.not_true,Bool.and_false,Bool.and_false,Bool.or_false]
  |false=>
   rw[Bool.not_false,Bool.and_true,Bool.or_false,Bool.eq_iff_iff];simp only[Bool.or_eq_true,Bool.and_eq_true,Bool.not_eq_true',decide_eq_true_eq,decide_eq_false_iff_not];omega
theorem ka{T l:Au}(hT:CK T)(hr:∀y,C9 T y=C9 l y)(a:Au)(y:Int):(C9 a y && C9 (GO (-1073741824) T) y)=(C9 a y && !C9 l y):=by
 rw[PI T _ hT AD (fun b hb=>(hT.1 b hb).1),hr]
 cases hay:C9 a y with
 |false=>rw[Bool.false_and,Bool.false_and]
 |true=>
  obtain ⟨b,hb,h1,h2,h3,h4⟩:=Ou.1 hay;rw[decide_eq_true AD,Bool.true_and]
end
end Go.Proofs.YtamhnffokoejjaaGreatDoor
namespace Go.Proofs.YtamhnffokoejjaaGreatDoor
open List(any_eq_true mem_cons_self length_cons getElem?_cons_succ getElem?_eq_getElem length_append length_singleton mem_cons not_mem_nil length_take)
open Nat(le_refl)
open Go.Proofs.Tryz
open Go.RowKit
section
variable{cur:Array Value}{j:Nat}{P:Program}
theorem eH(n lo hi v:Int)(w:World)(hv:TY n lo hi=v):
 Calls prog 89 #[.int .i64 n,.int .i64 lo,.int .i64 hi] w fun e w'=>e=.returned (.int .i64 v)/\w=w':=by
 subst hv;by_cases h1:n<lo
 ·go_enter func89,ntmps89
  go_wp2
  go_ret;exact ⟨CN (by unfold TY;rw[if_pos (.inl h1)]),rfl⟩
 ·by_cases h2:hi<lo
  ·go_enter func89,ntmps89
   go_wp2
   go_ret;exact ⟨CN (by unfold TY;rw[if_pos (.inr h2)]),rfl⟩
  ·by_cases h3:hi<n
   ·go_enter func89,ntmps89
    go_wp2
    all_goals
     go_ret;exact ⟨CN (by unfold TY;rw[if_neg AD,if_pos AD]),rfl⟩
   ·go_enter func89,ntmps89
    go_wp2
    all_goals
     go_ret;exact ⟨CN (by unfold TY;rw[if_neg AD,if_neg AD]),rfl⟩
theorem Jc(b1 b2:Int)(w:World)(c:Bool)(hc:decide (b1<b2)=c):
 Calls prog 175 #[.agg #[.int .i64 b1,.int .i64 b2]] w fun e w'=>e=.returned (.bool c)/\AA w w':=by
 have HL:=AC ((AA.refl w).alloc (.cells #[.int .i64 b1,.int .i64 b2] 170));have HC:=AC hc;clear hc;go_enter func175,ntmps175
 go_wp2
 go_ret;exact ⟨Am (by rw[<-HC.out]),HL.out⟩
theorem Qf(b1 b2 f t r1 r2:Int)(w:World)(h1:TY b1 f t=r1)(h2:TY b2 f t=r2):
 Calls prog 174 #[.agg #[.int .i64 b1,.int .i64 b2],.int .i64 f,.int .i64 t] w fun e w'=>e=.returned (.agg #[.int .i64 r1,.int .i64 r2])/\AA w w':=by
 go_enter func174,ntmps174;go_wp2_with fail;refine BW (fun wS=>AA w wS/\wS.heap[w.heap.size]?=some (.cells #[.int .i64 b1,.int .i64 b2] 170)/\wS.heap[w.heap.size+1]?=some (.cells #[.int .i64 0,.int .i64 0] 170)) ⟨BQ,CG,CG⟩ ?_;rintro w1 ⟨AJ,AH,Aq⟩;have AG:=AJ;apply Ac (11) [] AY AY Ar
 case hstab=>
  intro e he v x y BE hv;simp only[mem_cons,not_mem_nil,or_false]at he
 case hlex=>
  intro U;have q0:=fun (v:BA (later U))=>AE (AB ⟨v,rfl⟩ (AB ⟨U,rfl⟩ AH))
  refine Ku ?_
  repeat (go_big_quiet_step (first|(go_at_call 89;exact Id (eH _ _ _ _ _ (by assumption)))))
  exact wpQuiet_nil rfl
 case hown=>
  intro e he o ho;simp only[mem_cons,not_mem_nil,or_false]at he
 case htail=>
  intro g u Aw Az;have AL:AA w1 (later u):=⟨u,rfl⟩;generalize later u=w2 at *;clear u;clear Aw Az;refine DH ?_;have AR:=AG.trans AL;have BH:=AB AL Aq;obtain ⟨Gl,OO⟩:=DX BH
  go_wp2
  refine bodyPost_ret (v:=.agg #[.int .i64 r1,.int .i64 r2]) (by simp[results,results174,go_sem, *]) rfl ⟨rfl,?_⟩;exact BQ
def XR(x y:Int):Int:=if x<y then -1 else if y<x then 1 else 0
theorem NW(n:Int)(w:World):Calls prog 246 #[.int .i64 n] w fun e w'=>e=.returned (.bool false)/\w=w':=by
 go_enter func246,ntmps246
 go_wp2
 go_ret;exact ⟨Am (by first|rfl|simp),rfl⟩
theorem VL(x y:Int)(w:World):Calls prog 237 #[.int .i64 x,.int .i64 y] w fun e w'=>e=.returned (.int .i64 (XR x y))/\w=w':=by
 by_cases h1:x<y
 ·go_enter func237,ntmps237;go_wp2_with (go_at_call 246;refine (NW _ _).mono ?_;rintro e w' ⟨rfl,rfl⟩)
  go_ret;exact ⟨CN (by unfold XR;rw[if_pos AD]),rfl⟩
 ·by_cases h2:y<x
  ·go_enter func237,ntmps237;go_wp2_with (go_at_call 246;refine (NW _ _).mono ?_;rintro e w' ⟨rfl,rfl⟩)
   go_ret;exact ⟨CN (by unfold XR;rw[if_neg AD,if_pos AD]),rfl⟩
  ·go_enter func237,ntmps237;go_wp2_with (go_at_call 246;refine (NW _ _).mono ?_;rintro e w' ⟨rfl,rfl⟩)
   go_ret;exact ⟨CN (by unfold XR;rw[if_neg AD,if_neg AD]),rfl⟩
theorem fy(b1 b2:Int)(w:World):
 Calls prog 193 #[.agg #[.int .i64 b1,.int .i64 b2]] w fun e w'=>e=.returned (.agg #[.int .i64 b1,.int .i64 b2])/\AA w w':=by
 go_enter func193,ntmps193
 go_wp2
 refine bodyPost_ret (v:=.agg #[.int .i64 b1,.int .i64 b2]) (by simp[results,results193,go_sem, *]) rfl ⟨rfl,?_⟩;exact BQ
def Gi(cur:Array Value)(K:Au):Prop:=∀(i:Nat) (h:i<K.length),cur[i*2]?=some (.int .i64 K[i].1)/\cur[i*2+1]?=some (.int .i64 K[i].2)
theorem Gi.take{K:Au}(h:Gi cur K)(hs:K.length*2<=cur.size):cur.toList.take (K.length*2)=Da K:=by
 apply List.ext_getElem?
 intro j;by_cases hj:j<K.length*2
 ·rw[List.getElem?_take_of_lt hj,Array.getElem?_toList];have hk:j/2<K.length:=AD;rcases Nat.mod_two_eq_zero_or_one j with hm|hm
  ·have e:j=j/2*2:=AD;rw[e,(h _ hk).1,Kv,getElem?_eq_getElem hk];rfl
  ·have e:j=j/2*2+1:=AD;rw[e,(h _ hk).2,LH,getElem?_eq_getElem hk];rfl
 ·rw[List.getElem?_eq_none (by rw[length_take];omega),List.getElem?_eq_none (by rw[FY];omega)]
theorem Gi.oC{K:Au}(h:cur.toList.take (K.length*2)=Da K):Gi cur K:=by
 intro i hi;have e:∀k,k<K.length*2->cur[k]?=(Da K)[k]?:=fun k hk=>by
  rw[<-h,List.getElem?_take_of_lt hk];simp
 rw[e _ AD,e _ AD,Kv,LH,getElem?_eq_getElem hi];exact ⟨rfl,rfl⟩
theorem OB.of_block{w:World}{B g cap:Nat}{K:Au}(hB:B<=g)(hg:w.heap[g]?=some (.cells cur 170))(hk:K.length<=cap)(hm:cap<=maxLen)(hs:cur.size=cap*2)(hc:Gi cur K):OB w B (.slice (some ⟨g,0,none⟩) K.length cap) K:=
 ⟨FY K,.inr ⟨g,cap,cur,rfl,hB,hg,hk,hm,hs,hc.take (by rw[hs];omega)⟩⟩
theorem IP(w:World){ops:Array Oper}{rest:List Oper}{o:Oper}{a:Act}{Q:Exit->Act->World->Prop}(J8:o.guard=none)(s x:Operand)(t:TypeId)
 (ho:o.op=.call {callee:=.builtin .append,args:= #[s,x],argTypes:= #[t,t]}) (e:TypeId) (i:TypeInfo) (size:Nat) (ht:P.underlying t=some (.slice e)) (hi:P.info? e=some i) (M8:i.size=size)
 (g n cap:Nat) (cur:Array Value) (hs:a.eval s=.slice (some ⟨g,0,none⟩) n cap) (hg:w.heap[g]?=some (.cells cur e))
 (ad:Addr) (m c:Nat) (news:List Value) (hx:a.eval x=.slice (some ad) m c) (hl:news.length=m*size) (Pv:∀j u,news[j]?=some u->w.cell? (ad.add j)=some u) (h1:∀u∈news,u.oneCell'=true)
 (wl:n+m<=cap) (r6:n*size+news.length<=cur.size)
 (h:∀(w':World) (cur':Array Value),w'.heap[g]?=some (.cells cur' e)->cur'.size=cur.size->(∀j,j<news.length->cur'[n*size+j]?=news[j]?)->(∀j,j<n*size\/n*size+news.length<=j->cur'[j]?=cur[j]?)->
  (∀W,AA W w->W.heap.size<=g->AA W w')->wpList P ops Q rest (a.put o.dst (.slice (some ⟨g,0,none⟩) (n+m) cap)) w'):wpList P ops Q (o::rest) a w:=by
 subst M8;have hr:=run_append_room (P:=P) w t o.type e i ht hi g n cap cur hg ad m c news hl Pv h1 wl r6;refine wpList_plain J8 fun K hK=>?_
 unfold Oper.wp execOp;simp only[ho,resolve,invoke,builtin,Sem.run_bind,Sem.run_pure,Result.andThen_ok,List.map_toArray,List.map_cons,List.map_nil,hs,hx,hr];have hlen:(cur.toList.take (n*i.size)).length=n*i.size:=by rw[length_take,Array.length_toList];omega
 refine hK _ _ (h _ _ (setRow_heap w g cur _ e _ hg) ?_ ?_ ?_ ?_)
 ·simp only[List.size_toArray,length_append,length_take,List.length_drop,Array.length_toList];omega
 ·intro j hj;rw[List.getElem?_toArray,List.getElem?_append_left (by rw[length_append,hlen];omega),List.getElem?_append_right (by rw[hlen];omega),hlen,Nat.add_sub_cancel_left]
 ·intro j hj;rw[List.getElem?_toArray];rcases hj with hj|hj
  ·rw[List.getElem?_append_left (by rw[length_append,hlen];omega),List.getElem?_append_left (by rw[hlen];omega),List.getElem?_take_of_lt hj,Array.getElem?_toList]
  ·rw[List.getElem?_append_right (by rw[length_append,hlen];omega),length_append,hlen,List.getElem?_drop,Array.getElem?_toList]
   congr 1;omega
 ·intro W hW fT;exact .of ⟨hW.below.os,hW.below.tape,hW.below.output,by simpa[World.setRow] using hW.below.size,fun k hk=>(setRow_other w g k _ AD).trans (hW.below.block k hk)⟩
def fQ(p q:Int):Int:=if q<p then p else q
theorem lF(w:World)(ts:Array TypeId)(t:TypeId)(p q:Int):(Builtin.max_ ts t #[.int .i64 p,.int .i64 q]).run P w=.ok (.int .i64 (fQ p q)) w:=by
 rw[run_max_int2];unfold fQ;split <;> split <;> first|rfl|omega|(congr 2;omega)
theorem sa(p q:Int):p<=fQ p q/\q<=fQ p q/\(fQ p q<=p\/fQ p q<=q):=by unfold fQ;split <;> omega
structure Ez(L:Au)(j:Nat)(K:Au)(cur:Array Value):Prop where
 inv:Eo L j K
 kept:Gi cur K
 rest:∀(i:Nat) (h:i<L.length),j<=i->cur[i*2]?=some (.int .i64 L[i].1)/\cur[i*2+1]?=some (.int .i64 L[i].2)
theorem Ez.fresh{L K:Au}{cur':Array Value}(m:Ez L j K cur)(hj:j<L.length)(hf:Full L)(hs:UA L)(hk:∀b∈K,b.2<L[j].1)
 (h0:cur'[K.length*2]?=some (.int .i64 L[j].1)) (h1:cur'[K.length*2+1]?=some (.int .i64 L[j].2)) (h2:∀i,i<K.length*2\/K.length*2+2<=i->cur'[i]?=cur[i]?):Ez L (j+1) (K++[L[j]]) cur':=by
 refine ⟨m.inv.fresh hj hf hs hk,fun i hi=>?_,fun i hi Lw=>?_⟩
 ·rw[length_append,length_singleton]at hi;by_cases e:i<K.length
  ·rw[h2 _ (.inl AD),h2 _ (.inl AD),List.getElem_append_left e];exact m.kept i e
  ·obtain rfl:i=K.length:=AD
   rw[h0,h1,List.getElem_append_right (le_refl _)];simp
 ·have:=m.inv.len
  rw[h2 _ (.inr AD),h2 _ (.inr AD)];exact m.rest i hi AD
theorem Ez.more{L K:Au}{k:Int × Int}(m:Ez L j (K++[k]) cur)(hj:j<L.length)(hf:Full L)(hk:L[j].1<=k.2):Ez L (j+1) (K++[(k.1,fQ k.2 L[j].2)]) (cur.setIfInBounds (K.length*2+1) (.int .i64 (fQ k.2 L[j].2))):=by
 have hl:=m.inv.len;rw[length_append,length_singleton]at hl;have hin:=(m.kept K.length Ar).2;have BN:K.length*2+1<cur.size:=by
  rcases Nat.lt_or_ge (K.length*2+1) cur.size with h|h
  ·exact h
  ·rw[Array.getElem?_eq_none h]at hin;cases hin
 refine ⟨m.inv.more hj hf hk _ (sa _ _),fun i hi=>?_,fun i hi Lw=>?_⟩
 ·rw[length_append,length_singleton]at hi;by_cases e:i<K.length
  ·rw[Array.getElem?_setIfInBounds_ne AD,Array.getElem?_setIfInBounds_ne AD,List.getElem_append_left e];have:=m.kept i (by rw[length_append];omega)
   rwa [List.getElem_append_left e]at this
  ·obtain rfl:i=K.length:=AD
   have:=m.kept K.length Ar
   rw[Array.getElem?_setIfInBounds_ne AD,Array.getElem?_setIfInBounds_self_of_lt BN,List.getElem_append_right (le_refl _)];rw[List.getElem_append_right (le_refl _)]at this;simp only[Nat.sub_self,List.getElem_cons_zero]at this ⊢;exact ⟨this.1,trivial⟩
 ·rw[Array.getElem?_setIfInBounds_ne AD,Array.getElem?_setIfInBounds_ne AD];exact m.rest i hi AD
theorem Y4(K:Au):K=[]\/∃K0 k,K=K0++[k]:=by
 rcases List.eq_nil_or_concat K with h|⟨K0,k,h⟩
 ·exact .inl h
 ·exact .inr ⟨K0,k,by rw[h,List.concat_eq_append]⟩
theorem UP(gb n cap:Nat)(nh:Array Value)(L:Au)(W w:World)(hW:AA W w)(fT:W.heap.size<=gb)(hg:w.heap[gb]?=some (.cells nh 170))(hL:L.length=n)(hn:n<=100000)(JY:n<=cap)(hm:cap<=maxLen)(Oo:nh.size=cap*2)
 (hc:Gi nh L) (hF:Full L) (hS:UA L):
 Calls prog 238 #[.slice (some ⟨gb,0,none⟩) n cap] w fun e w'=>∃v K,e=.returned v/\AA W w'/\OB w' W.heap.size v K/\CK K/\∀y,C9 K y=C9 L y:=by
 obtain ⟨i0,Gv,JM,Ie,JN⟩:=info_parts Iy;have HL:=AC hL;have HN:=AC (And.intro hW (And.intro fT (And.intro hg (And.intro Oo hc))));have HF:=AC (And.intro hF (And.intro hS hm));have hmx:=lF (P:=prog);clear hL hW hg Oo hc hF hS hm;go_enter func238,ntmps238;go_wp2_with fail;go_loopg [3,11] n (fun k v i wr=>∃(j:Nat) (K:Au) (cur:Array Value),k=n-j/\j<=n/\i=.int .i64 j/\v=.slice (some ⟨gb,0,none⟩) K.length cap/\AA W wr/\wr.heap[gb]?=some (.cells cur 170)/\cur.size=cap*2/\Ez L j K cur)
 case atStart=>
  obtain ⟨h1,h2,h3,h4,h5⟩:=HN.out;exact ⟨0,[],nh,AD,AD,rfl,rfl,h1,h3,h4,⟨Eo.zero L,fun i hi=>by simp at hi,fun i hi _=>h5 i hi⟩⟩
 case round=>
  obtain ⟨j,K,cur,hk,hj,rfl,rfl,AW,CR,Oo,hM⟩:=hrel;have HM:=AC hM;have HZ:=AC Oo;clear hM Oo;by_cases BN:j<n
  ·have lj:j<L.length:=by rw[HL.out];exact BN
   obtain ⟨c0,c1⟩:=HM.out.rest j lj (le_refl _);have Dy:=AE CR;have HK:Hid (K.length<=j):=AC HM.out.inv.len;have HR:Hid (∀b∈K,b.2<L[j].1->True):=AC (fun _ _ _=>trivial);have HX:=AC (rfl:L[j]=L[j]);obtain ⟨x,hx⟩:=BZ (L[j]);obtain ⟨f,t⟩:=x;have HE:=AC hx;rw[hx]at c0 c1;simp only at c0 c1
   clear hx HX HR;rcases Y4 K with rfl|⟨K0,k,rfl⟩
   ·have uq:Hid (∀cur',cur'[0*2]?=some (.int .i64 f)->cur'[0*2+1]?=some (.int .i64 t)->(∀i,i<0*2\/0*2+2<=i->cur'[i]?=cur[i]?)->Ez L (j+1) [(f,t)] cur'):=AC (fun cur' q0 q1 q2=>by
     have q:=HM.out.fresh lj HF.out.1 HF.out.2.1 (cur':=cur') Ar (by rw[HE.out];exact q0) (by rw[HE.out];exact q1) q2;rw[HE.out]at q;exact q)
    simp only[List.length_nil];go_wp2_with fail;refine JL wr (wr.heap.size) (.cells #[.int .i64 f,.int .i64 t] 170) ?_;intro w1 AJ Aq;have AG:=AW.trans AJ;have AH:=AB AJ CR;(try clear Dy);apply Ac (13) [] AY AY Ar
    case hstab=>
     intro e he v x y BE hv;simp only[mem_cons,not_mem_nil,or_false]at he
    case hlex=>
     intro U;have q0:=fun (v:BA (later U))=>AE (AB ⟨v,rfl⟩ (AB ⟨U,rfl⟩ AH))
     have q1:=fun (v:BA (later U))=>AE (AB ⟨v,rfl⟩ (AB ⟨U,rfl⟩ Aq))
     refine Ku ?_
     repeat (go_big_quiet_step (first|fail))
     exact wpQuiet_nil rfl
    case hown=>
     intro e he o ho;simp only[mem_cons,not_mem_nil,or_false]at he
    case htail=>
     intro g u Aw Az;have AL:AA w1 (later u):=⟨u,rfl⟩;generalize later u=w2 at *;clear u;clear Aw Az;refine DH ?_;have AR:=AG.trans AL;have AU:=AB AL AH;have BH:=AB AL Aq;have GV:=As AU;have Gl:=AE BH;have HB:=AC (And.intro (I4 (o:=.cells #[.int .i64 f,.int .i64 t] 170) GV AU) (World.news_of_block (w:=w2.alloc (.cells #[.int .i64 f,.int .i64 t] 170)) (cs:= #[.int .i64 f,.int .i64 t]) (t:=170) (fr:=(0,0)) (Ae rfl)));have HQ:Hid (0+1<=cap/\0*2+2<=cur.size):=AC ⟨AD,by rw[HZ.out];omega⟩;go_wp2_with (at_builtin;refine IP _ rfl _ _ 152 rfl 170 i0 2 underlying152 Gv Ie gb 0 cap cur rfl HB.out.1 ⟨w2.heap.size,0,none⟩ 1 1 [.int .i64 f,.int .i64 t] rfl rfl HB.out.2 (by simp[Value.oneCell']) HQ.out.1 HQ.out.2 ?_;intro w3 Q4 p1 p2 p3 p4 p5;have S:Hid (AA W w3/\w3.heap[gb]?=some (.cells Q4 170)/\Q4.size=cap*2/\Ez L (j+1) [(f,t)] Q4):=AC ⟨p5 W (AR.alloc _) fT,p1,p2.trans HZ.out,uq Q4 (p3 0 Ar) (p3 1 Ar) (fun i hi=>p4 i hi)⟩;clear p1 p2 p3 p4 p5)
     go_roundg (n-(j+1))
     case measure=>omega
     case rel=>exact ⟨j+1,[(f,t)],Q4,rfl,BN,by go_num,rfl,S.out⟩
   ·obtain ⟨kf,kt⟩:=k;have e:(K0++[(kf,kt)]).length=K0.length+1:=Ar;have d:=HM.out.kept K0.length (by rw[e];omega);rw[List.getElem_append_right (le_refl _)]at d;simp only[Nat.sub_self,List.getElem_cons_zero]at d;obtain ⟨d0,d1⟩:=d;have HS:Hid (f<=kt->Ez L (j+1) (K0++[(kf,fQ kt t)]) (cur.setIfInBounds (K0.length*2+1) (.int .i64 (fQ kt t)))):=AC (fun h=>by
     have q:=HM.out.more lj HF.out.1 (by rw[HE.out];exact h);rw[HE.out]at q;exact q)
    have HF2:Hid (kt<f->∀cur',cur'[(K0.length+1)*2]?=some (.int .i64 f)->cur'[(K0.length+1)*2+1]?=some (.int .i64 t)->(∀i,i<(K0.length+1)*2\/(K0.length+1)*2+2<=i->cur'[i]?=cur[i]?)->Ez L (j+1) (K0++[(kf,kt)]++[(f,t)]) cur'):=AC (fun h cur' q0 q1 q2=>by
     have q:=HM.out.fresh lj HF.out.1 HF.out.2.1 (cur':=cur') (HM.out.inv.MS.last (by rw[HE.out];exact h)) (by rw[HE.out,e];exact q0) (by rw[HE.out,e];exact q1) (by rw[e];exact q2);rw[HE.out]at q;exact q)
    have HK2:Hid (K0.length+1<=j):=AC (by have:=HK.out;rw[e]at this;exact this);have Dw:Hid (∀z:Int × Int,(K0++[z]).length=K0.length+1):=AC (by intro z;simp);have vK:Hid ((K0++[(kf,kt)]++[(f,t)]).length=K0.length+1+1):=AC Ar;rw[e];clear e HM HK;have hD:∀m,K0.length=m->m=K0.length:=fun _ h=>h.symm
    generalize K0.length=m at *;clear hD;have lm:m+1<=j:=HK2.out;have lm2:m<100000:=AD;by_cases h:f<=kt
    ·go_wp2_with fail;refine JL wr (wr.heap.size) (.cells #[.int .i64 f,.int .i64 t] 170) ?_;intro w1 AJ Aq;have AG:=AW.trans AJ;have AH:=AB AJ CR;(try clear Dy);apply Ac (13) [] AY AY Ar
     case hstab=>
      intro e he v x y BE hv;simp only[mem_cons,not_mem_nil,or_false]at he
     case hlex=>
      intro U;have q0:=fun (v:BA (later U))=>AE (AB ⟨v,rfl⟩ (AB ⟨U,rfl⟩ AH))
      have q1:=fun (v:BA (later U))=>AE (AB ⟨v,rfl⟩ (AB ⟨U,rfl⟩ Aq))
      refine Ku ?_
      repeat (go_big_quiet_step (first|fail))
      exact wpQuiet_nil rfl
     case hown=>
      intro e he o ho;simp only[mem_cons,not_mem_nil,or_false]at he
     case htail=>
      intro g u Aw Az;have AL:AA w1 (later u):=⟨u,rfl⟩;generalize later u=w2 at *;clear u;clear Aw Az;refine DH ?_;have AR:=AG.trans AL;have AU:=AB AL AH;have BH:=AB AL Aq;have GV:=As AU;have Gl:=AE BH;go_wp2_with fail;apply Ac (14) [] AY AY Ar
      case hstab=>
       intro e he v x y BE hv;simp only[mem_cons,not_mem_nil,or_false]at he
      case hlex=>
       intro U;have q0:=fun (v:BA (later U))=>AE (AB ⟨v,rfl⟩ (AB ⟨U,rfl⟩ AU))
       have q1:=fun (v:BA (later U))=>AE (AB ⟨v,rfl⟩ (AB ⟨U,rfl⟩ BH))
       refine Ku ?_
       repeat (go_big_quiet_step (first|fail))
       exact wpQuiet_nil rfl
      case hown=>
       intro e he o ho;simp only[mem_cons,not_mem_nil,or_false]at he
      case htail=>
       intro g u Aw Az;have AX:AA w2 (later u):=⟨u,rfl⟩;generalize later u=w3 at *;clear u;clear Aw Az;refine DH ?_;have An:=AR.trans AX;have Ah:=AB AX AU;obtain ⟨CB,Fu⟩:=DX Ah;(try clear Gl);go_wp2_with fail;go_roundg (n-(j+1))
       case measure=>omega
       case rel=>exact ⟨j+1,K0++[(kf,fQ kt t)],_,rfl,BN,by go_num,by rw[Dw.out],An.setCell fT _,BI Ah rfl,by rw[Array.size_setIfInBounds];exact HZ.out,HS h⟩
    ·go_wp2_with fail;refine JL wr (wr.heap.size) (.cells #[.int .i64 f,.int .i64 t] 170) ?_;intro w1 AJ Aq;have AG:=AW.trans AJ;have AH:=AB AJ CR;(try clear Dy);apply Ac (13) [] AY AY Ar
     case hstab=>
      intro e he v x y BE hv;simp only[mem_cons,not_mem_nil,or_false]at he
     case hlex=>
      intro U;have q0:=fun (v:BA (later U))=>AE (AB ⟨v,rfl⟩ (AB ⟨U,rfl⟩ AH))
      have q1:=fun (v:BA (later U))=>AE (AB ⟨v,rfl⟩ (AB ⟨U,rfl⟩ Aq))
      refine Ku ?_
      repeat (go_big_quiet_step (first|fail))
      exact wpQuiet_nil rfl
     case hown=>
      intro e he o ho;simp only[mem_cons,not_mem_nil,or_false]at he
     case htail=>
      intro g u Aw Az;have AL:AA w1 (later u):=⟨u,rfl⟩;generalize later u=w2 at *;clear u;clear Aw Az;refine DH ?_;have AR:=AG.trans AL;have AU:=AB AL AH;have BH:=AB AL Aq;have GV:=As AU;have Gl:=AE BH;have HB:=AC (And.intro (I4 (o:=.cells #[.int .i64 f,.int .i64 t] 170) GV AU) (World.news_of_block (w:=w2.alloc (.cells #[.int .i64 f,.int .i64 t] 170)) (cs:= #[.int .i64 f,.int .i64 t]) (t:=170) (fr:=(0,0)) (Ae rfl)));have HQ:Hid ((m+1)+1<=cap/\(m+1)*2+2<=cur.size):=AC ⟨AD,by rw[HZ.out];omega⟩;go_wp2_with (at_builtin;refine IP _ rfl _ _ 152 rfl 170 i0 2 underlying152 Gv Ie gb (m+1) cap cur rfl HB.out.1 ⟨w2.heap.size,0,none⟩ 1 1 [.int .i64 f,.int .i64 t] rfl rfl HB.out.2 (by simp[Value.oneCell']) HQ.out.1 HQ.out.2 ?_;intro w3 Q4 p1 p2 p3 p4 p5;have S:Hid (AA W w3/\w3.heap[gb]?=some (.cells Q4 170)/\Q4.size=cap*2/\Ez L (j+1) (K0++[(kf,kt)]++[(f,t)]) Q4):=AC ⟨p5 W (AR.alloc _) fT,p1,p2.trans HZ.out,HF2 AD Q4 (p3 0 Ar) (p3 1 Ar) (fun i hi=>p4 i hi)⟩;clear p1 p2 p3 p4 p5)
      go_roundg (n-(j+1))
      case measure=>omega
      case rel=>exact ⟨j+1,K0++[(kf,kt)]++[(f,t)],Q4,rfl,BN,by go_num,by rw[vK.out],S.out⟩
  ·obtain rfl:j=n:=AD
   go_wp2_with fail;go_ret;exact ⟨_,K,rfl,AW,OB.of_block fT CR (by have:=HM.out.inv.len;omega) HF.out.2.2 HZ HM.out.kept,HM.out.inv.MS,fun y=>by rw[HM.out.inv.rows,List.take_of_length_le (Nat.le_of_eq HL.out)]⟩
end
end Go.Proofs.YtamhnffokoejjaaGreatDoor
