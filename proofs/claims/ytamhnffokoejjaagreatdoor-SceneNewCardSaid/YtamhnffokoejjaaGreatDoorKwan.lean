import Derived.Deep.DeepAppendRoom
import Derived.Test.YtamhnffokoejjaaGreatDoorKwak
set_option linter.all false
set_option maxRecDepth 100000
namespace Go.Proofs.YtamhnffokoejjaaGreatDoor
open Nat(le_refl le_trans)
open Go.RowKit
section
variable{l:List Int}{B cap g:Nat}{v:Value}{a b c w w':World}
structure AZ(S:Nat->Prop)(w w':World):Prop where
 os:w'.os=w.os
 tape:w'.tape=w.tape
 output:w'.output=w.output
 size:w.heap.size<=w'.heap.size
 block:∀k,k<w.heap.size->¬S k->w'.heap[k]?=w.heap[k]?
theorem AZ.refl(S:Nat->Prop)(w:World):AZ S w w:=⟨rfl,rfl,rfl,le_refl _,fun _ _ _=>rfl⟩
theorem AZ.trans{S:Nat->Prop}(h:AZ S a b)(k:AZ S b c):AZ S a c:=
 ⟨k.os.trans h.os,k.tape.trans h.tape,k.output.trans h.output,le_trans h.size k.size,fun i hi hn=>(k.block i (Nat.lt_of_lt_of_le hi h.size) hn).trans (h.block i hi hn)⟩
theorem AZ.of{S:Nat->Prop}(h:AA w w'):AZ S w w':=⟨h.below.os,h.below.tape,h.below.output,h.below.size,fun k hk _=>h.below.block k hk⟩
theorem AZ.any{S:Nat->Prop}{W:World}(hW:AA W w)(hS:∀k,S k->W.heap.size<=k)(h:AZ S w w'):AA W w':=
 .of ⟨h.os.trans hW.below.os,h.tape.trans hW.below.tape,h.output.trans hW.below.output,le_trans hW.below.size h.size,
  fun k hk=>(h.block k (Nat.lt_of_lt_of_le hk hW.below.size) (fun hs=>by have:=hS k hs;omega)).trans (hW.below.block k hk)⟩
theorem AZ.more{S T:Nat->Prop}(h:AZ S a b)(k:AZ T b c)(ht:∀q,T q->S q\/a.heap.size<=q):AZ S a c:=
 ⟨k.os.trans h.os,k.tape.trans h.tape,k.output.trans h.output,le_trans h.size k.size,fun i hi hn=>(k.block i (Nat.lt_of_lt_of_le hi h.size) (fun e=>(ht i e).elim hn (fun q=>by omega))).trans (h.block i hi hn)⟩
theorem AZ.later{S:Nat->Prop}(h:AZ S a b)(k:AA b c):AZ S a c:=h.trans (.of k)
theorem AZ.wide{S S':Nat->Prop}(h:AZ S w w')(hs:∀k,k<w.heap.size->S k->S' k):AZ S' w w':=
 ⟨h.os,h.tape,h.output,h.size,fun k hk hn=>h.block k hk (fun q=>hn (hs k hk q))⟩
theorem AZ.setCell{S:Nat->Prop}(h:AZ S w w'){b i:Nat}(hb:S b)(v:Value):AZ S w (w'.setCell ⟨b,i,none⟩ v):=
 ⟨h.os,h.tape,h.output,by rw[World.size_setCell];exact h.size,fun k hk hn=>(Bh (fun e=>hn (by rw[e];exact hb)) (h.block k hk hn))⟩
theorem AZ.grown{S:Nat->Prop}{row:Option Nat}(h:w.grownBy w' row)(hr:∀k,row=some k->S k):AZ S w w':=
 ⟨h.os,h.tape,h.output,h.size,fun k hk hn=>h.block k hk (fun e=>hn (hr k e.symm))⟩
theorem AZ.own{S:Nat->Prop}{k:Nat}{o:Obj}(h:AZ S w w')(hk:w.heap[k]?=some o)(hn:¬S k):w'.heap[k]?=some o:=(h.block k (As hk) hn).trans hk
theorem ON.at(h:ON .i64 3 w B v l)(h0:0<l.length):∃g cap cur,v=.slice (some ⟨g,0,none⟩) l.length cap/\B<=g/\w.heap[g]?=some (.cells cur 3)/\l.length<=cap/\cap<=maxLen/\cur.size=cap/\∀(j:Nat) (hj:j<l.length),cur[j]?=some (.int .i64 l[j]):=by
 rcases h.2 with ⟨_,e⟩|⟨g,cap,cur,rfl,h1,h2,h3,h4,h5,h6⟩
 ·omega
 ·refine ⟨g,cap,cur,rfl,h1,h2,h3,h4,AD,fun j hj=>?_⟩;have:(cur.toList.take (l.length*1))[j]?=(l.map (Value.int .i64))[j]?:=by rw[h6]
  rw[List.getElem?_take_of_lt AD,Array.getElem?_toList]at this;rw[this];simp[hj]
theorem ON.of{cur:Array Value}(h1:B<=g)(h2:w.heap[g]?=some (.cells cur 3))(h3:l.length<=cap)(h4:cap<=maxLen)(h5:cur.size=cap)(h6:∀(j:Nat) (hj:j<l.length),cur[j]?=some (.int .i64 l[j])):ON .i64 3 w B (.slice (some ⟨g,0,none⟩) l.length cap) l:=by
 refine ⟨Ar,.inr ⟨g,cap,cur,rfl,h1,h2,h3,h4,AD,?_⟩⟩;apply List.ext_getElem?
 intro j;by_cases hj:j<l.length
 ·rw[List.getElem?_take_of_lt AD,Array.getElem?_toList,h6 j hj];simp[hj]
 ·rw[List.getElem?_eq_none (by rw[List.length_take];omega),List.getElem?_eq_none (by simpa using hj)]
theorem ON.stays{S:Nat->Prop}(h:ON .i64 3 w B v l)(hk:AZ S w w')(hn:∀k,v.ownBlock=some k->¬S k):ON .i64 3 w' B v l:=by
 refine ⟨h.1,?_⟩;rcases h.2 with q|⟨g,cap,cur,rfl,h1,h2,h3⟩
 ·exact .inl q
 ·exact .inr ⟨g,cap,cur,rfl,h1,hk.own h2 (hn g rfl),h3⟩
theorem ON.set{n:Nat}{i:Nat}(x:Int)(h:ON .i64 3 w B (.slice (some ⟨g,0,none⟩) n cap) l):ON .i64 3 (w.setCell ⟨g,i,none⟩ (.int .i64 x)) B (.slice (some ⟨g,0,none⟩) n cap) (l.set i x):=by
 rcases h.2 with ⟨e,_⟩|⟨g',DZ,cur,e,h1,h2,h3,h4,h5,h6⟩
 ·cases e
 ·cases e;have hc:∀(j:Nat) (hj:j<l.length),cur[j]?=some (.int .i64 l[j]):=fun j hj=>by
   have:(cur.toList.take (l.length*1))[j]?=(l.map (Value.int .i64))[j]?:=by rw[h6]
   rw[List.getElem?_take_of_lt AD,Array.getElem?_toList]at this;rw[this];simp[hj]
  have:=ON.of (l:=l.set i x) (cap:=cap) h1 (BI (i:=i) (v:=.int .i64 x) h2 rfl) (by rw[List.length_set];exact h3) h4 (by simpa using h5) (fun j hj=>by
   rw[List.length_set]at hj;rw[List.getElem_set];by_cases e:i=j
   ·subst e;rw[if_pos rfl,Array.getElem?_setIfInBounds_self,if_pos AD]
   ·rw[if_neg e,Array.getElem?_setIfInBounds_ne e];exact hc j hj)
  simpa using this
end
section
theorem B8:Mz 61 84:=⟨Tryz.underlying84,AY,AY,fun w=>by simp[go_sem]⟩
theorem SS:∀{a b:Qs},CL a=CL b->a=b
 |[],[],_=>rfl
 |[],x::b,h=>by rw[LF,E2]at h;cases h
 |x::a,[],h=>by rw[LF,E2]at h;cases h
 |x::a,y::b,h=>by
  rw[E2,E2]at h;obtain ⟨x1,x2⟩:=x;obtain ⟨y1,y2⟩:=y;simp only[List.cons.injEq,Value.int.injEq,true_and]at h;rw[h.1,h.2.1,SS h.2.2]
theorem OQ.Sn{t:TypeId}{w:World}{B g n cap:Nat}{l:Qs}(h:OQ t w B (.slice (some ⟨g,0,none⟩) n cap) l):n=l.length/\∃cur,w.heap[g]?=some (.cells cur t)/\cur.size=cap*2/\l.length<=cap/\cap<=maxLen/\cur.toList.take (l.length*2)=CL l:=by
 rcases h.2 with ⟨e,_⟩|⟨g',DZ,cur,e,h2,h3,h4,h5,h6,h7⟩
 ·cases e
 ·cases e;exact ⟨rfl,cur,h3,h6,h4,h5,h7⟩
theorem OQ.only{t:TypeId}{w:World}{B C g n cap:Nat}{l m:Qs}(h:OQ t w B (.slice (some ⟨g,0,none⟩) n cap) l)(k:OQ t w C (.slice (some ⟨g,0,none⟩) n cap) m):l=m:=by
 obtain ⟨e1,c1,a1,_,_,_,d1⟩:=OQ.Sn h;obtain ⟨e2,c2,a2,_,_,_,d2⟩:=OQ.Sn k;rw[a1]at a2;cases a2;rw[<-e1]at d1;rw[<-e2]at d2;exact SS (d1.symm.trans d2)
theorem OQ.kept{t:TypeId}{w w':World}{B g n cap:Nat}{l:Qs}(h:OQ t w B (.slice (some ⟨g,0,none⟩) n cap) l)(hk:w'.heap[g]?=w.heap[g]?):OQ t w' B (.slice (some ⟨g,0,none⟩) n cap) l:=by
 refine ⟨h.1,?_⟩;rcases h.2 with q|⟨g',DZ,cur,e,h2,h3,h4⟩
 ·exact .inl q
 ·cases e;exact .inr ⟨g,cap,cur,rfl,h2,hk.trans h3,h4⟩
def Bm(lv rv fv:Value)(t:Ht):Array Value:= #[lv,rv,fv,.int .i64 (t.hs.length:Int),.int .i64 (DL t.hs),.int .i64 (DG t.hs),.int .i64 (t.Ad:Int)]
def Dx(w:World):Ht->Value->List Nat->Prop
 |.nil,v,F=>v=.pointer none/\F=[]
 |.leaf b l,v,F=>∃(k cap:Nat),v=.pointer (some ⟨k,0,none⟩)/\F=[k,b]/\w.heap[k]?=some (.cells (Bm (.pointer none) (.pointer none) (.slice (some ⟨b,0,none⟩) l.length cap) (.leaf b l)) 249)/\OQ 61 w 0 (.slice (some ⟨b,0,none⟩) l.length cap) l
 |.node l r,v,F=>∃(k:Nat) (lv rv:Value) (F1 F2:List Nat),v=.pointer (some ⟨k,0,none⟩)/\F=k::(F1++F2)/\l≠.nil/\r≠.nil/\w.heap[k]?=some (.cells (Bm lv rv (.slice none 0 0) (.node l r)) 249)/\Dx w l lv F1/\Dx w r rv F2
theorem Dx.ptr{w:World}:∀{t:Ht} {v:Value} {F:List Nat},Dx w t v F->∃q,v=.pointer q
 |.nil,_,_,h=>⟨none,h.1⟩
 |.leaf _ _,_,_,h=>by obtain ⟨k,_,h1,_⟩:=h;exact ⟨_,h1⟩
 |.node _ _,_,_,h=>by obtain ⟨k,_,_,_,_,h1,_⟩:=h;exact ⟨_,h1⟩
theorem Dx.there{w:World}:∀{t:Ht} {v:Value} {F:List Nat},Dx w t v F->t≠.nil->∃k,v=.pointer (some ⟨k,0,none⟩)/\k∈F
 |.nil,_,_,_,h=>absurd rfl h
 |.leaf _ _,_,_,h,_=>by obtain ⟨k,_,h1,h2,_⟩:=h;exact ⟨k,h1,by rw[h2];simp⟩
 |.node _ _,_,_,h,_=>by obtain ⟨k,_,_,_,_,h1,h2,_⟩:=h;exact ⟨k,h1,by rw[h2];simp⟩
theorem Dx.frame{w w':World}:∀{t:Ht} {v:Value} {F:List Nat},Dx w t v F->(∀b∈F,w'.heap[b]?=w.heap[b]?)->Dx w' t v F
 |.nil,_,_,h,_=>h
 |.leaf b l,_,_,h,k=>by
  obtain ⟨a,cap,h1,h2,h3,h4⟩:=h;subst h2;exact ⟨a,cap,h1,rfl,(k a Ar).trans h3,OQ.kept h4 (k b Ar)⟩
 |.node l r,_,_,h,k=>by
  obtain ⟨a,lv,rv,F1,F2,h1,h2,n1,n2,h3,h4,h5⟩:=h;subst h2;exact ⟨a,lv,rv,F1,F2,h1,rfl,n1,n2,(k a Ar).trans h3,Dx.frame h4 (fun b hb=>k b (by simp[hb])),Dx.frame h5 (fun b hb=>k b (by simp[hb]))⟩
theorem Dx.kinds{w:World}:∀{t:Ht} {v:Value} {F:List Nat},Dx w t v F->∀b∈F,(∃cs,w.heap[b]?=some (.cells cs 249))\/(b∈t.CW/\∃cs,w.heap[b]?=some (.cells cs 61))
 |.nil,_,_,h,b,hb=>by rw[h.2]at hb;cases hb
 |.leaf r l,_,_,h,b,hb=>by
  obtain ⟨a,cap,h1,h2,h3,h4⟩:=h;subst h2;rcases List.mem_cons.1 hb with rfl|hb
  ·exact .inl ⟨_,h3⟩
  ·rcases List.mem_cons.1 hb with rfl|hb
   ·obtain ⟨_,cur,hc,_⟩:=OQ.Sn h4;exact .inr ⟨by simp[Ht.CW],cur,hc⟩
   ·cases hb
 |.node l r,_,_,h,b,hb=>by
  obtain ⟨a,lv,rv,F1,F2,h1,h2,n1,n2,h3,h4,h5⟩:=h;subst h2;rcases List.mem_cons.1 hb with rfl|hb
  ·exact .inl ⟨_,h3⟩
  ·rcases List.mem_append.1 hb with hb|hb
   ·exact (Dx.kinds h4 b hb).imp id (fun q=>⟨by simp[Ht.CW,q.1],q.2⟩)
   ·exact (Dx.kinds h5 b hb).imp id (fun q=>⟨by simp[Ht.CW,q.1],q.2⟩)
theorem Dx.lt{w:World}{t:Ht}{v:Value}{F:List Nat}(h:Dx w t v F):∀b∈F,b<w.heap.size:=fun b hb=>by
 rcases h.kinds b hb with ⟨cs,hc⟩|⟨_,cs,hc⟩
 ·exact As hc
 ·exact As hc
theorem Dx.rows{w:World}:∀{t:Ht} {v:Value} {F:List Nat},Dx w t v F->∀b∈t.CW,b∈F/\∃cs,w.heap[b]?=some (.cells cs 61)
 |.nil,_,_,_,b,hb=>by cases hb
 |.leaf r l,_,_,h,b,hb=>by
  obtain ⟨a,cap,h1,h2,h3,h4⟩:=h;subst h2;obtain rfl:b=r:=by simpa[Ht.CW] using hb
  obtain ⟨_,cur,hc,_⟩:=OQ.Sn h4;exact ⟨Ar,cur,hc⟩
 |.node l r,_,_,h,b,hb=>by
  obtain ⟨a,lv,rv,F1,F2,h1,h2,n1,n2,h3,h4,h5⟩:=h;subst h2;rcases List.mem_append.1 hb with hb|hb
  ·obtain ⟨q1,q2⟩:=Dx.rows h4 b hb;exact ⟨by simp[q1],q2⟩
  ·obtain ⟨q1,q2⟩:=Dx.rows h5 b hb;exact ⟨by simp[q1],q2⟩
theorem Dx.later{w w':World}{t:Ht}{v:Value}{F:List Nat}(h:Dx w t v F)(a:AA w w'):Dx w' t v F:=h.frame (fun b hb=>a.below.block b (h.lt b hb))
theorem Dx.stays{S:Nat->Prop}{w w':World}{t:Ht}{v:Value}{F:List Nat}(h:Dx w t v F)(a:AZ S w w')(hn:∀b∈F,¬S b):Dx w' t v F:=h.frame (fun b hb=>a.block b (h.lt b hb) (hn b hb))
theorem Dx.only{w:World}:∀{t s:Ht} {v:Value} {F G:List Nat},Dx w t v F->Dx w s v G->t=s/\F=G
 |.nil,.nil,_,_,_,h,k=>⟨rfl,by rw[h.2,k.2]⟩
 |.nil,.leaf _ _,_,_,_,h,k=>by
  obtain ⟨_,_,e,_⟩:=k;rw[h.1]at e;cases e
 |.nil,.node _ _,_,_,_,h,k=>by
  obtain ⟨_,_,_,_,_,e,_⟩:=k;rw[h.1]at e;cases e
 |.leaf _ _,.nil,_,_,_,h,k=>by
  obtain ⟨_,_,e,_⟩:=h;rw[k.1]at e;cases e
 |.node _ _,.nil,_,_,_,h,k=>by
  obtain ⟨_,_,_,_,_,e,_⟩:=h;rw[k.1]at e;cases e
 |.leaf b l,.leaf c m,_,_,_,h,k=>by
  obtain ⟨a1,Cg,rfl,rfl,h3,h4⟩:=h;obtain ⟨a2,BP,e,rfl,k3,k4⟩:=k;cases e;rw[h3]at k3;simp only[Option.some.injEq,Obj.cells.injEq,Bm]at k3;have e:=congrArg (fun x:Array Value=>x[2]?) k3.1;simp at e
  obtain ⟨rfl,e2,rfl⟩:=e;rw[<-e2]at k4;rw[OQ.only h4 k4];exact ⟨rfl,rfl⟩
 |.leaf b l,.node m r,_,_,_,h,k=>by
  obtain ⟨a1,Cg,rfl,rfl,h3,h4⟩:=h;obtain ⟨a2,lv,rv,F1,F2,e,rfl,n1,n2,k3,k4,k5⟩:=k;cases e;rw[h3]at k3;simp only[Option.some.injEq,Obj.cells.injEq,Bm]at k3;have e:=congrArg (fun x:Array Value=>x[0]?) k3.1;simp at e
  obtain ⟨q,e3,_⟩:=Dx.there k4 n1;rw[<-e]at e3;cases e3
 |.node m r,.leaf b l,_,_,_,k,h=>by
  obtain ⟨a1,Cg,rfl,rfl,h3,h4⟩:=h;obtain ⟨a2,lv,rv,F1,F2,e,rfl,n1,n2,k3,k4,k5⟩:=k;cases e;rw[h3]at k3;simp only[Option.some.injEq,Obj.cells.injEq,Bm]at k3;have e:=congrArg (fun x:Array Value=>x[0]?) k3.1;simp at e
  obtain ⟨q,e3,_⟩:=Dx.there k4 n1;rw[<-e]at e3;cases e3
 |.node m r,.node m2 r2,_,_,_,h,k=>by
  obtain ⟨a1,lv,rv,F1,F2,rfl,rfl,_,_,h3,h4,h5⟩:=h;obtain ⟨a2,sO,rv2,F3,F4,e,rfl,n1,n2,k3,k4,k5⟩:=k;cases e;rw[h3]at k3;simp only[Option.some.injEq,Obj.cells.injEq,Bm]at k3;have e0:=congrArg (fun x:Array Value=>x[0]?) k3.1;have e1:=congrArg (fun x:Array Value=>x[1]?) k3.1;simp at e0 e1
  subst e0;subst e1;obtain ⟨rfl,rfl⟩:=Dx.only h4 k4;obtain ⟨rfl,rfl⟩:=Dx.only h5 k5;exact ⟨rfl,rfl⟩
theorem Dx.part{w:World}:∀{t:Ht} {v:Value} {F:List Nat},Dx w t v F->∀b∈F,(b∈t.CW/\∃cs,w.heap[b]?=some (.cells cs 61))\/∃(s:Ht) (G:List Nat),s≠.nil/\Dx w s (.pointer (some ⟨b,0,none⟩)) G/\s.np<=t.np/\∀x∈s.CW,x∈t.CW
 |.nil,_,_,h,b,hb=>by rw[h.2]at hb;cases hb
 |.leaf r l,v,F,h,b,hb=>by
  obtain ⟨a,cap,h1,h2,h3,h4⟩:=id h;rw[h2]at hb;rcases List.mem_cons.1 hb with rfl|hb
  ·exact .inr ⟨.leaf r l,F,Ar,by rw[<-h1];exact h,le_refl _,fun _ hx=>hx⟩
  ·rcases List.mem_cons.1 hb with rfl|hb
   ·obtain ⟨_,cur,hc,_⟩:=OQ.Sn h4;exact .inl ⟨by simp[Ht.CW],cur,hc⟩
   ·cases hb
 |.node l r,v,F,h,b,hb=>by
  obtain ⟨a,lv,rv,F1,F2,h1,h2,n1,n2,h3,h4,h5⟩:=id h;rw[h2]at hb;rcases List.mem_cons.1 hb with rfl|hb
  ·exact .inr ⟨.node l r,F,Ar,by rw[<-h1];exact h,le_refl _,fun _ hx=>hx⟩
  ·rcases List.mem_append.1 hb with hb|hb
   ·rcases Dx.part h4 b hb with ⟨q1,q2⟩|⟨s,G,q1,q2,q3,q4⟩
    ·exact .inl ⟨by simp[Ht.CW,q1],q2⟩
    ·exact .inr ⟨s,G,q1,q2,by simp only[Ht.np];omega,fun x hx=>by simp[Ht.CW,q4 x hx]⟩
   ·rcases Dx.part h5 b hb with ⟨q1,q2⟩|⟨s,G,q1,q2,q3,q4⟩
    ·exact .inl ⟨by simp[Ht.CW,q1],q2⟩
    ·exact .inr ⟨s,G,q1,q2,by simp only[Ht.np];omega,fun x hx=>by simp[Ht.CW,q4 x hx]⟩
theorem Dx.type{w:World}:∀{t:Ht} {b:Nat} {F:List Nat},Dx w t (.pointer (some ⟨b,0,none⟩)) F->∃cs,w.heap[b]?=some (.cells cs 249)
 |.nil,_,_,h=>by cases h.1
 |.leaf _ _,_,_,h=>by obtain ⟨k,_,e,_,h3,_⟩:=h;cases e;exact ⟨_,h3⟩
 |.node _ _,_,_,h=>by obtain ⟨k,_,_,_,_,e,_,_,_,h3,_⟩:=h;cases e;exact ⟨_,h3⟩
theorem F_{w:World}{b:Nat}{cs ds:Array Value}(h:w.heap[b]?=some (.cells cs 249))(k:w.heap[b]?=some (.cells ds 61)):False:=by
 rw[h]at k;cases k
theorem Dx.Vl{w:World}:∀{t:Ht} {v:Value} {F:List Nat},Dx w t v F->t≠.nil->∃b,b∈t.CW
 |.nil,_,_,_,h=>absurd rfl h
 |.leaf b _,_,_,_,_=>⟨b,by simp[Ht.CW]⟩
 |.node l r,_,_,h,_=>by
  obtain ⟨_,_,_,_,_,_,_,n1,_,_,h4,_⟩:=h;obtain ⟨b,hb⟩:=Dx.Vl h4 n1;exact ⟨b,by simp[Ht.CW,hb]⟩
theorem Dx.apart{w:World}{t s:Ht}{v u:Value}{F G:List Nat}(h:Dx w t v F)(k:Dx w s u G)(hd:∀b∈t.CW,b∉s.CW):∀b∈F,b∉G:=by
 intro b hF hG;rcases h.part b hF with ⟨q1,cs,q2⟩|⟨t1,G1,n1,i1,_,m1⟩
 ·rcases k.part b hG with ⟨q3,_⟩|⟨s1,G2,_,i2,_,_⟩
  ·exact hd b q1 q3
  ·obtain ⟨ds,O3⟩:=i2.type;exact F_ O3 q2
 ·rcases k.part b hG with ⟨_,cs,q2⟩|⟨s1,G2,n2,i2,_,m2⟩
  ·obtain ⟨ds,O3⟩:=i1.type;exact F_ O3 q2
  ·obtain ⟨rfl,_⟩:=i1.only i2;obtain ⟨x,hx⟩:=i1.Vl n1;exact hd x (m1 x hx) (m2 x hx)
theorem Dx.qi{w:World}{t s:Ht}{v:Value}{b:Nat}{F G:List Nat}(h:Dx w t v F)(k:Dx w s (.pointer (some ⟨b,0,none⟩)) G)(hn:t.np<s.np):b∉F:=by
 intro hF;rcases h.part b hF with ⟨_,cs,q2⟩|⟨t1,G1,n1,i1,hp,m1⟩
 ·obtain ⟨ds,O3⟩:=k.type;exact F_ O3 q2
 ·obtain ⟨rfl,_⟩:=i1.only k;omega
def CD(B:Nat)(t:Ht)(v:Value)(w:World):Prop:=B<=w.heap.size/\∃F,Dx w t v F/\∀b∈F,B<=b
section
variable {B:Nat}
theorem AV{t:Ht}{v:Value}{w w':World}(h:AA w w')(s:CD B t v w):CD B t v w':=by
 obtain ⟨hB,F,hF,hb⟩:=s;exact ⟨le_trans hB h.below.size,F,hF.later h,hb⟩
theorem CD.ptr{t:Ht}{v:Value}{w:World}(h:CD B t v w):∃q,v=.pointer q:=by
 obtain ⟨_,F,hF,_⟩:=h;exact hF.ptr
theorem CD.mono{C:Nat}{t:Ht}{v:Value}{w:World}(h:CD B t v w)(hC:C<=B):CD C t v w:=by
 obtain ⟨hB,F,hF,hb⟩:=h;exact ⟨le_trans hC hB,F,hF,fun b q=>le_trans hC (hb b q)⟩
theorem CD.nil{v:Value}{w:World}(h:CD B .nil v w):v=.pointer none:=by
 obtain ⟨_,F,hF,_⟩:=h;exact hF.1
theorem JA{w:World}(h:B<=w.heap.size):CD B .nil (.pointer none) w:=⟨h,[],⟨rfl,rfl⟩,fun b q=>by cases q⟩
theorem CD.node{l r:Ht}{v:Value}{w:World}(h:CD B (.node l r) v w):∃(k:Nat) (lv rv:Value),v=.pointer (some ⟨k,0,none⟩)/\l≠.nil/\r≠.nil/\w.heap[k]?=some (.cells (Bm lv rv (.slice none 0 0) (.node l r)) 249)/\CD B l lv w/\CD B r rv w:=by
 obtain ⟨hB,F,⟨k,lv,rv,F1,F2,e,rfl,n1,n2,hk,hl,hr⟩,hb⟩:=h;exact ⟨k,lv,rv,e,n1,n2,hk,⟨hB,F1,hl,fun b q=>hb b (by simp[q])⟩,hB,F2,hr,fun b q=>hb b (by simp[q])⟩
theorem CD.leaf{b:Nat}{l:Qs}{v:Value}{w:World}(h:CD B (.leaf b l) v w):∃(k cap:Nat),v=.pointer (some ⟨k,0,none⟩)/\w.heap[k]?=some (.cells (Bm (.pointer none) (.pointer none) (.slice (some ⟨b,0,none⟩) l.length cap) (.leaf b l)) 249)/\OQ 61 w 0 (.slice (some ⟨b,0,none⟩) l.length cap) l:=by
 obtain ⟨hB,F,⟨k,cap,e,rfl,hk,ho⟩,hb⟩:=h;exact ⟨k,cap,e,hk,ho⟩
theorem Dx.is0{t:Ht}{v:Value}{w:World}{F:List Nat}(h:Dx w t v F):CD 0 t v w:=⟨Nat.zero_le _,F,h,fun _ _=>Nat.zero_le _⟩
theorem CD.there{t:Ht}{v:Value}{w:World}(h:CD B t v w)(n:t≠.nil):∃k,v=.pointer (some ⟨k,0,none⟩):=by
 obtain ⟨_,F,hF,_⟩:=h;obtain ⟨k,e,_⟩:=hF.there n;exact ⟨k,e⟩
end
def Gd(is:Value->World->Prop)(w:World)(e:Ending)(w':World):Prop:=∃u,e=.returned u/\AA w w'/\is u w'
end
end Go.Proofs.YtamhnffokoejjaaGreatDoor
