import Derived.StillTail
import Derived.Test.YtamhnffokoejjaaGreatDoorKwaa
set_option linter.all false
namespace Go.Proofs.YtamhnffokoejjaaGreatDoor
open List(range size_toArray getElem?_toArray contains_eq_mem length_map getElem_mem)
open Nat(lt_or_ge zero_add)
open Option(map_some)
open Go.RowKit
section
structure Hy where
 i:Nat
 s:Tmp
 is:Value->World->Prop
def vblk:Value->Option Nat
 |.pointer (some a)=>some a.block
 |.slice (some a) _ _=>some a.block
 |_=>none
def Gj(n:Nat)(is:List Nat)(i:Nat)(o:Oper):Oper:=
 if n<=i then {o with dst:=none,op:=.move (.const undef)} else if is.contains i=true then {o with op:=.move (.const undef)} else o
def CC(n:Nat)(is:List Nat):Nat->List Oper->List Oper
 |_,[]=>[]
 |i,o::l=>Gj n is i o::CC n is (i+1) l
theorem EF(n:Nat)(is:List Nat):∀(l:List Oper) (k j:Nat),(CC n is k l)[j]?=(l[j]?).map (Gj n is (k+j))
 |[],_,_=>by simp[CC]
 |o::l,k,0=>by simp[CC]
 |o::l,k,j+1=>by
  simp only[CC,List.getElem?_cons_succ];rw[EF n is l (k+1) j,show k+1+j=k+(j+1) by omega]
theorem Hk(n:Nat)(is:List Nat):∀(l:List Oper) (k:Nat),(CC n is k l).length=l.length
 |[],_=>rfl
 |o::l,k=>by simp[CC,Hk n is l (k+1)]
theorem VH(n:Nat)(is:List Nat)(i:Nat)(o:Oper):(Gj n is i o).after=o.after:=by
 unfold Gj;split
 ·rfl
 ·split <;> rfl
theorem LO(n:Nat)(is:List Nat)(i:Nat)(o:Oper)(h:i<n):(Gj n is i o).dst=o.dst:=by
 unfold Gj;rw[if_neg (by omega)];split <;> rfl
theorem MO(n:Nat)(is:List Nat)(i:Nat)(o:Oper)(h:n<=i):(Gj n is i o).dst=none:=by
 unfold Gj;rw[if_pos h]
theorem WI(n:Nat)(is:List Nat)(i:Nat)(o:Oper)(h:i<n)(ha:is.contains i=false):Gj n is i o=o:=by
 unfold Gj;rw[if_neg (by omega),if_neg (by rw[ha];simp)]
theorem bK(n:Nat)(is:List Nat)(i:Nat)(o:Oper)(h:i<n)(ha:is.contains i=true):Gj n is i o={o with op:=.move (.const undef)}:=by
 unfold Gj;rw[if_neg (by omega),if_pos ha]
def LT(al:List Hy):List Nat:=al.map (·.i)
def te(l:List Oper)(n:Nat)(al:List (Nat × Tmp)):Bool:=
 Region.noSelect l.toArray && decide (n<=l.length) &&
 ((range l.length).all fun i=>match l[i]? with|some o=>o.after.all fun e=> !Region.binds .any e || decide (e.on<i)|none=>true) &&
 ((range n).all fun i=>match l[i]? with
  |some o=>(match o.guard with|some (g,_)=>decide (g<n)|none=>true) &&
   (al.all fun e=> !(o.looksAt l.toArray).contains e.2 && (e.1 == i || o.dst != some e.2))
  |none=>true) &&
 (al.all fun e=>decide (e.1<n) && (al.all fun e'=>(e.1 == e'.1) == (e.2 == e'.2)) &&
  match l[e.1]? with
  |some o=>o.guard.isNone && o.dst == some e.2 && (range n).all fun j=>match (l[j]?).bind (·.dst) with
   |some t=> !(o.looksAt l.toArray).contains t || o.after.any fun ed=>Region.binds .any ed && ed.on == j
   |none=>true
  |none=>false) &&
 ((range n).all fun i=>(range n).all fun j=>i == j || match (l[i]?).bind (·.dst),(l[j]?).bind (·.dst) with|some d,some d'=>d != d'|_,_=>true) &&
 Region.lexB .any (CC n (al.map (·.1)) 0 l).toArray &&
 (n == l.length || (Region.sinkB .any l.toArray n && Region.chainB .any l.toArray n)) &&
 Region.seqB .any l.toArray (l.length-n) n (Array.replicate n true++Array.replicate (l.length-n) false)
section
variable {P:Program}{l:List Oper}{n:Nat}{al:List Hy}{W:World}{is:List Nat}
theorem bq(listed:Array Bool):Region.ready .any (CC n is 0 l).toArray listed=Region.ready .any l.toArray listed:=by
 unfold Region.ready;rw[size_toArray,size_toArray,Hk]
 congr 1
 funext i
 rw[getElem?_toArray,getElem?_toArray,EF]
 cases l[i]? with
 |none=>rfl
 |some o=>simp only[map_some,VH]
def fill(listed:Array Bool)(g:Nat->Value):List Hy->Act->Act
 |[],a=>a
 |e::es,a=>if listed.getD e.i false=true then (fill listed g es a).put (some e.s) (g e.i) else fill listed g es a
def Ay(g:Nat->Value):List Hy->Act->Act
 |[],a=>a
 |e::es,a=>(Ay g es a).put (some e.s) (g e.i)
theorem Ep(listed:Array Bool)(g:Nat->Value)(d:Option Tmp)(v:Value):∀(es:List Hy) (a:Act),(∀e∈es,d≠some e.s)->fill listed g es (a.put d v)=(fill listed g es a).put d v
 |[],_,_=>rfl
 |e::es,a,h=>by
  simp only[fill];rw[Ep listed g d v es a (fun e' he=>h e' (by simp[he]))];split
  ·exact Act.put_comm _ _ _ (fun d' hd he=>h e (by simp) (hd.trans he.symm))
  ·rfl
theorem DP(listed TK:Array Bool)(g g':Nat->Value):∀(es:List Hy) (a:Act),(∀e∈es,listed.getD e.i false=TK.getD e.i false/\g e.i=g' e.i)->fill listed g es a=fill TK g' es a
 |[],_,_=>rfl
 |e::es,a,h=>by
  simp only[fill];rw[DP listed TK g g' es a (fun e' he=>h e' (by simp[he])),(h e (by simp)).1,(h e (by simp)).2]
theorem Hb(listed:Array Bool)(g:Nat->Value):∀(es:List Hy) (a:Act),(∀e∈es,listed.getD e.i false=true)->fill listed g es a=Ay g es a
 |[],_,_=>rfl
 |e::es,a,h=>by
  simp only[fill,Ay];rw[if_pos (h e (by simp)),Hb listed g es a (fun e' he=>h e' (by simp[he]))]
theorem FD(listed:Array Bool)(g:Nat->Value)(o:Oper)(hs:∀cs b,o.op≠.select cs b):∀(es:List Hy) (a:Act),(∀e∈es,e.s∉o.looksAt l.toArray)->execOp (fill listed g es a).eval o=execOp a.eval o
 |[],_,_=>rfl
 |e::es,a,h=>by
  simp only[fill];split
  ·rw[execOp_put (ops:=l.toArray) o hs _ _ _ (fun d hd=>by cases hd;exact h e (by simp)),FD listed g o hs es a (fun e' he=>h e' (by simp[he]))]
  ·exact FD listed g o hs es a (fun e' he=>h e' (by simp[he]))
theorem EJ(listed:Array Bool)(g:Nat->Value)(o:Oper):∀(es:List Hy) (a:Act),(∀e∈es,e.s∉o.looksAt l.toArray)->
 Region.wanted o (yielded l.toArray (fill listed g es a).tmps)=Region.wanted o (yielded l.toArray a.tmps)
 |[],_,_=>rfl
 |e::es,a,h=>by
  simp only[fill];split
  ·rw[wanted_put (ops:=l.toArray) o _ _ _ (fun d hd=>by cases hd;exact h e (by simp)),EJ listed g o es a (fun e' he=>h e' (by simp[he]))]
  ·exact EJ listed g o es a (fun e' he=>h e' (by simp[he]))
theorem om(a:Act)(s:Tmp)(u v:Value):(a.put (some s) u).put (some s) v=a.put (some s) v:=by
 simp[Act.put]
theorem I3(listed:Array Bool)(g:Nat->Value)(e:Hy)(b:Value)(u:Value)(VC:listed.getD e.i false=false)(Oo:e.i<listed.size):
 ∀(es:List Hy) (a:Act),(∀x∈es,∀y∈es,(x.i=y.i↔x.s=y.s))->e∈es->(∀x∈es,(x.i=e.i↔x.s=e.s))->es.Pairwise (fun x y=>x.i≠y.i)->
  fill (listed.setIfInBounds e.i true) (fun j=>if j=e.i then b else g j) es (a.put (some e.s) u)=(fill listed g es a).put (some e.s) b
 |[],_,_,h,_,_=>by cases h
 |x::es,a,hd,hm,hx,hp=>by
  obtain ⟨sj,mC⟩:=List.pairwise_cons.1 hp;by_cases GI:x.i=e.i
  ·have yl:=(hx x (by simp)).1 GI;have GL:∀y∈es,y.i≠e.i:=fun y hy=>GI ▸ (sj y hy).symm
   have h1:fill (listed.setIfInBounds e.i true) (fun j=>if j=e.i then b else g j) es (a.put (some e.s) u)=fill listed g es (a.put (some e.s) u):=
    DP _ _ _ _ es _ (fun y hy=>⟨getD_set_ne false (fun h=>GL y hy h.symm),by simp[GL y hy]⟩)
   have h2:fill listed g es (a.put (some e.s) u)=(fill listed g es a).put (some e.s) u:=
    Ep _ _ _ _ es a (fun y hy h=>GL y hy ((hx y (by simp[hy])).2 (by injection h with h;exact h.symm)))
   simp only[fill];have e1:(listed.setIfInBounds e.i true).getD e.i false=true:=by simp[Oo]
   have e2:¬listed.getD e.i false=true:=by rw[VC];simp
   rw[h1,h2,GI,yl,if_pos e1,om,if_pos rfl,if_neg e2]
  ·have hem:e∈es:=by
    rcases List.mem_cons.1 hm with rfl|h
    ·exact absurd rfl GI
    ·exact h
   have ih:=I3 listed g e b u VC Oo es a (fun y hy z hz=>hd y (by simp[hy]) z (by simp[hz])) hem (fun y hy=>hx y (by simp[hy])) mC;have yV:x.s≠e.s:=fun h=>GI ((hx x (by simp)).2 h)
   simp only[fill];rw[ih,getD_set_ne false (fun h=>GI h.symm),if_neg GI];split
   ·exact Act.put_comm _ _ _ (fun d h1 h2=>yV (by cases h1;injection h2))
   ·rfl
theorem Ax{ops:Array Oper}{C:World->Prop}{F:Act}:∀(fuel:Nat) (listed:Array Bool) (a:Act),wpAnyQ P .any ops C (· =F) fuel listed a->
 a.defers=F.defers/\a.tmps.size=F.tmps.size/\∀s,(∀(j:Nat) (o:Oper),ops[j]?=some o->listed.getD j true=false->o.dst≠some s)->a.tmps[s]?=F.tmps[s]?
 |0,_,a,h=>by
  obtain ⟨_,rfl⟩:=h;exact ⟨rfl,rfl,fun _ _=>rfl⟩
 |fuel+1,listed,a,h=>by
  by_cases hr:Region.ready .any ops listed=[]
  ·have:a=F:=h.1 hr
   subst this;exact ⟨rfl,rfl,fun _ _=>rfl⟩
  ·obtain ⟨i,hi⟩:=List.exists_mem_of_ne_nil _ hr;obtain ⟨G3,o,ho,_⟩:=mem_ready.1 hi;obtain ⟨v,_,hK⟩:=yieldsIn_of_qOp ho (h.2 i hi);obtain ⟨h1,h2,h3⟩:=Ax fuel _ _ hK;have Oo:(a.put o.dst v).tmps.size=a.tmps.size:=by unfold Act.put;cases o.dst <;> simp
   have hdf:(a.put o.dst v).defers=a.defers:=by unfold Act.put;cases o.dst <;> rfl
   refine ⟨hdf ▸ h1,Oo ▸ h2,fun s hs=>?_⟩;rw[<-h3 s (fun j o' hj hl=>hs j o' hj (by
    by_cases Fr:i=j
    ·subst Fr;exact G3
    ·rwa [getD_set_ne true Fr]at hl))]
   have Az:=hs i o ho G3;unfold Act.put
   cases hd:o.dst with
   |none=>rfl
   |some d=>
    have:d≠s:=fun h=>Az (by rw[hd,h])
    simp[Array.getElem?_setIfInBounds,this]
def Stand(listed:Array Bool)(g:Nat->Value)(al:List Hy)(W w:World):Prop:=
 (∀e∈al,listed.getD e.i false=true->e.is (g e.i) w/\∀b,vblk (g e.i)=some b->W.heap.size<=b/\b<w.heap.size)/\
 ∀e∈al,∀e'∈al,listed.getD e.i false=true->listed.getD e'.i false=true->e.i≠e'.i->∀b,vblk (g e.i)=some b->vblk (g e'.i)≠some b
theorem Stand.later{listed:Array Bool}{g:Nat->Value}{w w':World}(hs:∀e∈al,∀v w w',AA w w'->e.is v w->e.is v w')(h:Stand listed g al W w)(hl:AA w w'):Stand listed g al W w':=
 ⟨fun e he hh=>⟨hs e he _ _ _ hl (h.1 e he hh).1,fun b hb=>⟨((h.1 e he hh).2 b hb).1,Nat.lt_of_lt_of_le ((h.1 e he hh).2 b hb).2 hl.below.size⟩⟩,h.2⟩
def xI(is:Value->World->Prop)(w:World)(en:Ending)(w':World):Prop:=∃v,en=.returned v/\AA w w'/\is v w'/\∀b,vblk v=some b->w.heap.size<=b/\b<w'.heap.size
def Tu(P:Program)(W:World)(F:Act)(e:Hy)(o:Oper):Prop:=∀w,AA W w->
 match (execOp F.eval o).run P w with
 |.ok (.value v) w'=>AA w w'/\e.is v w'/\∀b,vblk v=some b->w.heap.size<=b/\b<w'.heap.size
 |.ok (.enter f args) w'=>w'=w/\Calls P f args w (xI e.is w)
 |_=>False
theorem ak:∀{es:List Hy},es.Pairwise (fun x y=>x.i≠y.i)->∀{x y:Hy},x∈es->y∈es->x.i=y.i->x=y
 |[],_,_,_,h,_,_=>by cases h
 |z::es,hp,x,y,hx,hy,he=>by
  obtain ⟨h1,h2⟩:=List.pairwise_cons.1 hp;rcases List.mem_cons.1 hx with hx|hx
  ·rcases List.mem_cons.1 hy with hy|hy
   ·rw[hx,hy]
   ·exact absurd (hx ▸ he) (h1 y hy)
  ·rcases List.mem_cons.1 hy with hy|hy
   ·exact absurd (hy ▸ he.symm) (h1 x hx)
   ·exact ak h2 hx hy he
structure iu(l:List Oper)(n:Nat)(al:List Hy):Prop where
 Yi:Region.noSelect l.toArray=true
 NK:n<=l.length
 back:∀(i:Nat) (o:Oper),l[i]?=some o->∀e∈o.after,Region.binds .any e=true->e.on<i
 guard:∀(i:Nat) (o:Oper),i<n->l[i]?=some o->∀g b,o.guard=some (g,b)->g<n
 made:∀e∈al,∀o,l[e.i]?=some o->o.guard=none/\o.dst=some e.s/\∀(j:Nat) (o':Oper),j<n->l[j]?=some o'->∀t,o'.dst=some t->t∈o.looksAt l.toArray->∃ed∈o.after,Region.binds .any ed=true/\ed.on=j
 blind:∀(i:Nat) (o:Oper),i<n->l[i]?=some o->∀e∈al,e.s∉o.looksAt l.toArray/\(e.i=i\/o.dst≠some e.s)
 own:∀e∈al,e.i<n/\∀e'∈al,(e.i=e'.i↔e.s=e'.s)
 RZ:∀i j:Nat,i<n->j<n->i≠j->∀o o':Oper,l[i]?=some o->l[j]?=some o'->∀d,o.dst=some d->o'.dst≠some d
 lex:Region.lexB .any (CC n (LT al) 0 l).toArray=true
 tail:n=l.length\/(Region.sinkB .any l.toArray n=true/\Region.chainB .any l.toArray n=true)
 seq:Region.seqB .any l.toArray (l.length-n) n (Array.replicate n true++Array.replicate (l.length-n) false)=true
theorem wH(h:te l n (al.map fun e=>(e.i,e.s))=true):iu l n al:=by
 unfold te at h;simp only[Bool.and_eq_true]at h;obtain ⟨⟨⟨⟨⟨⟨⟨⟨h1,h2⟩,h3⟩,h4⟩,h5⟩,h6⟩,h7⟩,h8⟩,h9⟩:=h;have h4':∀(i:Nat) (o:Oper),i<n->l[i]?=some o->(match o.guard with|some (g,_)=>decide (g<n)|none=>true)=true/\
  ((al.map fun e=>(e.i,e.s)).all fun e=> !(o.looksAt l.toArray).contains e.2 && (e.1 == i || o.dst != some e.2))=true:=by
  intro i o hi ho;have:=List.all_eq_true.1 h4 i (List.mem_range.2 hi)
  rw[ho]at this;simpa only[Bool.and_eq_true] using this
 have zU:∀e∈al,(decide (e.i<n)=true/\((al.map fun e=>(e.i,e.s)).all fun e'=>(e.i == e'.1) == (e.s == e'.2))=true)/\(match l[e.i]? with
  |some o=>o.guard.isNone && o.dst == some e.s && (range n).all fun j=>match (l[j]?).bind (·.dst) with
   |some t=> !(o.looksAt l.toArray).contains t || o.after.any fun ed=>Region.binds .any ed && ed.on == j
   |none=>true
  |none=>false)=true:=by
  intro e he;have:=List.all_eq_true.1 h5 (e.i,e.s) (List.mem_map.2 ⟨e,he,rfl⟩)
  simpa only[Bool.and_eq_true] using this
 refine ⟨h1,by simpa using h2,?_,?_,?_,?_,?_,?_,?_,?_,h9⟩
 ·intro i o ho e he hb;have hi:i<l.length:=(List.getElem?_eq_some_iff.1 ho).1;have:=List.all_eq_true.1 h3 i (List.mem_range.2 hi)
  rw[ho]at this;have:=Array.all_eq_true'.1 this e he
  simpa[hb] using this
 ·intro i o hi ho g b hg;have:=(h4' i o hi ho).1
  rw[hg]at this;simpa using this
 ·intro e he o ho;have:=(zU e he).2
  rw[ho]at this;simp only[Bool.and_eq_true]at this;obtain ⟨⟨g1,g2⟩,g3⟩:=this;refine ⟨by simpa using g1,by simpa using g2,fun j o' hj DK t ht BN=>?_⟩;have:=List.all_eq_true.1 g3 j (List.mem_range.2 hj)
  rw[DK,Option.bind_some,ht]at this;simp only[Bool.or_eq_true,Bool.not_eq_true',contains_eq_mem,decide_eq_false_iff_not,Array.any_eq_true',Bool.and_eq_true,beq_iff_eq]at this;rcases this with h|⟨ed,h,hb⟩
  ·exact absurd BN h
  ·exact ⟨ed,h,hb⟩
 ·intro i o hi ho e he;have:=List.all_eq_true.1 (h4' i o hi ho).2 (e.i,e.s) (List.mem_map.2 ⟨e,he,rfl⟩)
  simp only[Bool.and_eq_true,Bool.or_eq_true,beq_iff_eq,bne_iff_ne,Bool.not_eq_true',contains_eq_mem,decide_eq_false_iff_not]at this;exact this
 ·intro e he;refine ⟨by simpa using (zU e he).1.1,fun e' MU=>?_⟩;have:=List.all_eq_true.1 (zU e he).1.2 (e'.i,e'.s) (List.mem_map.2 ⟨e',MU,rfl⟩)
  rw[beq_iff_eq,Bool.eq_iff_iff]at this;simpa using this
 ·intro i j hi hj Fr o o' ho DK d hd mL;have:=List.all_eq_true.1 (List.all_eq_true.1 h6 i (List.mem_range.2 hi)) j (List.mem_range.2 hj)
  rw[ho,DK]at this;simp[Fr,hd,mL]at this
 ·have:(al.map fun e=>(e.i,e.s)).map (·.1)=LT al:=by simp[LT]
  rw[this]at h7;exact h7
 ·rcases Bool.or_eq_true_iff.1 h8 with h|h
  ·exact .inl (by simpa using h)
  ·exact .inr (by simpa only[Bool.and_eq_true] using h)
theorem eI(hm:iu l n al){listed:Array Bool}(inv:HeadInv .any l.toArray n listed){i:Nat}(hi:i<n)(G3:listed.getD i true=false):∀t∈Region.ready .any l.toArray listed,t<n:=by
 intro t ht;rcases lt_or_ge t n with h|h
 ·exact h
 ·obtain ⟨_,o,ho,_⟩:=mem_ready.1 ht;have yS:t<l.length:=by have:=(Array.getElem?_eq_some_iff.1 ho).1;simpa using this
  rcases hm.tail with he|⟨hs,hc⟩
  ·omega
  ·exact absurd ht (tail_waits hs hc (by simp;omega) inv _ i rfl hi G3 t h)
def EV(listed:Array Bool):Nat->Nat
 |0=>0
 |k+1=>EV listed k+if listed.getD k false=true then 0 else 1
theorem Hg{listed:Array Bool}{i:Nat}(Oo:i<listed.size)(h:listed.getD i false=false):∀k,EV (listed.setIfInBounds i true) k+(if i<k then 1 else 0)=EV listed k
 |0=>by simp[EV]
 |k+1=>by
  have ih:=Hg Oo h k;simp only[EV];by_cases pJ:i=k
  ·subst pJ;have e1:(listed.setIfInBounds i true).getD i false=true:=by simp[Oo]
   have e2:¬listed.getD i false=true:=by rw[h];simp
   have e3:(if i<i+1 then 1 else 0:Nat)=1:=if_pos (by omega);have e4:(if i<i then 1 else 0:Nat)=0:=if_neg (by omega);rw[if_pos e1,if_neg e2,e3];rw[e4]at ih;omega
  ·rw[getD_set_ne false pJ];have e3:(if i<k+1 then 1 else 0:Nat)=(if i<k then 1 else 0):=by split <;> split <;> omega
   rw[e3];omega
theorem FJ{listed:Array Bool}:∀k,EV listed k=0->∀i,i<k->listed.getD i false=true
 |0,_,_,h=>by omega
 |k+1,h,i,hi=>by
  simp only[EV]at h;by_cases hk:listed.getD k false=true
  ·by_cases pJ:i=k
   ·subst pJ;exact hk
   ·exact FJ k (by omega) i (by omega)
  ·rw[if_neg hk]at h;omega
theorem Fz{listed:Array Bool}:∀k,EV listed k≠0->∃i,i<k/\listed.getD i false=false/\∀j,j<i->listed.getD j false=true
 |0,h=>absurd rfl h
 |k+1,h=>by
  by_cases hz:EV listed k=0
  ·simp only[EV,hz]at h;refine ⟨k,by omega,?_,FJ k hz⟩;by_cases hk:listed.getD k false=true
   ·rw[if_pos hk]at h;omega
   ·simpa using hk
  ·obtain ⟨i,h1,h2,h3⟩:=Fz k hz;exact ⟨i,by omega,h2,h3⟩
theorem mt{Q:Exit->Act->World->Prop}{F:Act}(hm:iu l n al)(N_:al.Pairwise fun x y=>x.i≠y.i)
 (hstab:∀e∈al,∀v w w',AA w w'->e.is v w->e.is v w')
 (hown:∀e∈al,∀o,l[e.i]?=some o->Tu P W F e o)
 (htail:∀(g:Nat->Value) (w:World),AA W w->(∀e∈al,e.is (g e.i) w/\∀b,vblk (g e.i)=some b->W.heap.size<=b/\b<w.heap.size)->(∀e∈al,∀e'∈al,e.i≠e'.i->∀b,vblk (g e.i)=some b->vblk (g e'.i)≠some b)->wpList P l.toArray Q (l.drop n) (Ay g al F) w):
 ∀(f:Nat) (listed:Array Bool) (aA:Act) (w:World) (g:Nat->Value),EV listed n=f->HeadInv .any l.toArray n listed->AA W w->Stand listed g al W w->
  (∀W',AA w W'->wpAnyQ P .any (CC n (LT al) 0 l).toArray (AA W') (· =F) (f+(l.length-n)) listed aA)->wpAny P .any l.toArray Q (f+(l.length-n)) listed (fill listed g al aA) w:=by
 intro f
 induction f with
 |zero=>
  intro listed aA w g hf inv hw Aw hA;have Ca:=FJ n hf;have hl:listed=Array.replicate n true++Array.replicate (l.length-n) false:=by
   apply Array.ext
   ·have:=inv.size;simp at this ⊢;have:=hm.NK;omega
   ·intro i h1 h2;rcases lt_or_ge i n with h|h
    ·have:=Ca i h
     simp[Array.getElem_append,h]at this ⊢;simpa[h1] using this
    ·have hs:=inv.size;have:=inv.tail i h (by simp at hs ⊢;omega)
     simp[Array.getElem_append,show ¬i<n by omega]at this ⊢;simpa[h1] using this
  obtain ⟨d1,d2,d3⟩:=Ax _ _ _ (hA w (AA.refl w));have hF:aA=F:=by
   have ht:aA.tmps=F.tmps:=by
    apply Array.ext_getElem?
    intro s;refine d3 s (fun j o hj G3=>?_);rw[getElem?_toArray,EF]at hj
    cases hlj:l[j]? with
    |none=>rw[hlj]at hj;cases hj
    |some o'=>
     rw[hlj]at hj;simp only[map_some,Option.some.injEq]at hj;subst hj;rcases lt_or_ge j n with h|h
     ·have h1:=Ca j h;rcases lt_or_ge j listed.size with h'|h'
      ·simp[h']at h1 G3;rw[h1]at G3;cases G3
      ·simp[Array.getElem?_eq_none h']at h1
     ·rw[zero_add,MO n (LT al) j o' h];simp
   cases aA;cases F;simp_all
  subst hF;rw[Hb _ _ _ _ (fun e he=>Ca e.i (hm.own e he).1)];have PH:=htail g w hw (fun e he=>Aw.1 e he (Ca e.i (hm.own e he).1)) (fun e he e' MU Az=>Aw.2 e he e' MU (Ca _ (hm.own e he).1) (Ca _ (hm.own e' MU).1) Az);have Ko:=hm.seq;rw[<-hl]at Ko;have Hx:(l.drop n).length=l.length-n:=by simp
  rw[zero_add];have:=wpAny_of_seq (P:=P) (Q':=Q) (ops:=l.toArray) (md:=.any) (l.drop n) n listed (Ay g al aA) w (fun j=>by simp) (by rw[Hx];exact Ko) PH
  rwa [Hx]at this
 |succ f ih=>
  intro listed aA w g hf inv hw Aw hA;obtain ⟨k,hk,Pt,KO⟩:=Fz (listed:=listed) n (by omega);have Oo:listed.size=l.length:=by have:=inv.size;simpa using this
  have fk:=hm.NK;have GN:listed.getD k true=false:=getD_in (by omega) Pt;have UV:k∈Region.ready .any l.toArray listed:=by
   refine mem_ready.2 ⟨GN,l[k]'(by omega),by simp,fun e he hb=>?_⟩;have:=hm.back k _ (List.getElem?_eq_getElem (by omega)) e he hb
   exact KO _ this
  rw[show f+1+(l.length-n)=f+(l.length-n)+1 by omega];refine ⟨fun h0=>(by rw[h0]at UV;cases UV),fun i hi=>?_⟩;have hin:=eI hm inv hk GN i hi;obtain ⟨G3,o,ho,FC⟩:=mem_ready.1 hi;have DK:l[i]?=some o:=by simpa using ho
  have Jo:listed.getD i false=false:=getD_both G3;have iz:(CC n (LT al) 0 l).toArray[i]?=some (Gj n (LT al) i o):=by
   rw[getElem?_toArray,EF,DK,zero_add];rfl
  have Jz:=inv.set hi hin;have fU:EV (listed.setIfInBounds i true) n=f:=by
   have:=Hg (k:=n) (by omega) Jo
   rw[if_pos hin]at this;omega
  have T9:∀W',AA w W'->∃v,YieldsIn P (CC n (LT al) 0 l).toArray (AA W') (Gj n (LT al) i o) v aA/\
   wpAnyQ P .any (CC n (LT al) 0 l).toArray (AA W') (· =F) (f+(l.length-n)) (listed.setIfInBounds i true) (aA.put o.dst v):=by
   intro W' oz;have h1:=hA W' oz;rw[show f+1+(l.length-n)=f+(l.length-n)+1 by omega]at h1;have h2:=h1.2 i (by rw[bq];exact hi);obtain ⟨v,hy,hK⟩:=yieldsIn_of_qOp iz h2;rw[LO n (LT al) i o hin]at hK;exact ⟨v,hy,hK⟩
  have same:∀W1 W2 v1 v2,wpAnyQ P .any (CC n (LT al) 0 l).toArray (AA W1) (· =F) (f+(l.length-n)) (listed.setIfInBounds i true) (aA.put o.dst v1)->
   wpAnyQ P .any (CC n (LT al) 0 l).toArray (AA W2) (· =F) (f+(l.length-n)) (listed.setIfInBounds i true) (aA.put o.dst v2)->aA.put o.dst v1=aA.put o.dst v2:=by
   intro W1 W2 v1 v2 h1 h2
   cases hd:o.dst with
   |none=>rfl
   |some d=>
    rw[hd]at h1 h2;have GL:∀(j:Nat) (o':Oper),(CC n (LT al) 0 l).toArray[j]?=some o'->(listed.setIfInBounds i true).getD j true=false->o'.dst≠some d:=by
     intro j o' hj Fb;rw[getElem?_toArray,EF,zero_add]at hj
     cases hlj:l[j]? with
     |none=>rw[hlj]at hj;cases hj
     |some oj=>
      rw[hlj]at hj;simp only[map_some,Option.some.injEq]at hj;subst hj;rcases lt_or_ge j n with h|h
      ·rw[LO n (LT al) j oj h];have Fr:i≠j:=by
        rintro rfl;have:(listed.setIfInBounds i true).getD i true=true:=by
         simp[show i<listed.size by omega]
        rw[this]at Fb;cases Fb
       exact hm.RZ i j hin h Fr o oj DK hlj d hd
      ·rw[MO n (LT al) j oj h];simp
    have e1:=(Ax _ _ _ h1).2.2 d GL;have e2:=(Ax _ _ _ h2).2.2 d GL;have e3:=e1.trans e2.symm;simp only[Act.put,Array.getElem?_setIfInBounds_self]at e3 ⊢
    congr 1
    apply Array.ext_getElem?
    intro s;by_cases hs:d=s
    ·subst hs;rw[Array.getElem?_setIfInBounds_self,Array.getElem?_setIfInBounds_self];exact e3
    ·simp[Array.getElem?_setIfInBounds,hs]
  by_cases ha:(LT al).contains i=true
  ·
   have L6:i∈LT al:=by simpa using ha
   obtain ⟨e,he,sf⟩:=List.mem_map.1 L6;subst sf;obtain ⟨hg,hd,J7⟩:=hm.made e he o DK;have zx:∀v,(YieldsIn P (CC n (LT al) 0 l).toArray (AA w) (Gj n (LT al) e.i o) v aA)->v=undef:=by
    intro v hy;rcases hy with ⟨_,hv⟩|⟨_,hv⟩
    ·have:=hv w (AA.refl w)
     rw[bK n (LT al) e.i o hin ha]at this;unfold Oper.quietAt at this;simp only[execOp,Sem.run_pure,Oper.quietUpon]at this;exact this.2.symm
    ·exact hv
   have H_:=Region.noSelect_spec hm.Yi;have hex:=FD (l:=l) listed g o (fun cs b=>H_ e.i o cs b ho) al aA (fun e' MU=>(hm.blind e.i o hin DK e' MU).1);obtain ⟨_,_,M4⟩:=Ax _ _ _ (hA w (AA.refl w));have Qa:execOp aA.eval o=execOp F.eval o:=by
    refine execOp_congr o (fun cs b=>H_ e.i o cs b ho) fun x hx=>?_
    cases x with
    |tmp t=>
     have B6:t∈o.looksAt l.toArray:=List.mem_append_left _ (List.mem_filterMap.2 ⟨.tmp t,by simpa using hx,rfl⟩);have:=M4 t (fun j oj hj Fb Mo=>by
      rw[getElem?_toArray,EF,zero_add]at hj
      cases hlj:l[j]? with
      |none=>rw[hlj]at hj;cases hj
      |some oj'=>
       rw[hlj]at hj;simp only[map_some,Option.some.injEq]at hj;subst hj;rcases lt_or_ge j n with h|h
       ·rw[LO n (LT al) j oj' h]at Mo;obtain ⟨ed,NE,hb,Mr⟩:=J7 j oj' h hlj t Mo B6;have h1:=FC ed NE hb;rw[Mr,getD_both Fb]at h1;cases h1
       ·rw[MO n (LT al) j oj' h]at Mo;cases Mo)
     simp only[Act.eval,Array.getD_eq_getD_getElem?,this]
    |_=>rfl
   obtain ⟨v0,XM,jV⟩:=T9 w (AA.refl w);have TV:=zx v0 XM;subst TV;have hstep:=hown e he o DK w hw;have next:∀v w',AA w w'->e.is v w'->(∀b,vblk v=some b->w.heap.size<=b/\b<w'.heap.size)->
    wpAny P .any l.toArray Q (f+(l.length-n)) (listed.setIfInBounds e.i true) ((fill listed g al aA).put o.dst v) w':=by
    intro v w' XA hv hb;rw[hd];rw[<-I3 listed g e v undef Jo (by omega) al aA (fun x hx y hy=>(hm.own x hx).2 y hy) he (fun x hx=>(hm.own x hx).2 e he) N_];refine ih _ _ _ _ fU Jz (hw.trans XA) ⟨?_,?_⟩ ?_
    ·intro x hx Rg;by_cases GI:x.i=e.i
     ·have Wm:x=e:=ak N_ hx he GI;subst Wm;simp only[if_true];exact ⟨hv,fun b h=>⟨Nat.le_trans hw.below.size (hb b h).1,(hb b h).2⟩⟩
     ·simp only[if_neg GI];rw[getD_set_ne false (fun h=>GI h.symm)]at Rg;exact (Aw.later hstab XA).1 x hx Rg
    ·intro x hx y hy Rg fR Az;have old:∀z∈al,z.i≠e.i->(listed.setIfInBounds e.i true).getD z.i false=true->∀b,vblk (g z.i)=some b->b<w.heap.size:=by
      intro z hz xx qe b h;rw[getD_set_ne false (fun h=>xx h.symm)]at qe;exact ((Aw.1 z hz qe).2 b h).2
     by_cases h1:x.i=e.i
     ·have h2:y.i≠e.i:=fun h=>Az (h1.trans h.symm)
      simp only[if_pos h1,if_neg h2];intro b h3 h4;have:=old y hy h2 fR b h4
      have:=(hb b h3).1
      omega
     ·by_cases h2:y.i=e.i
      ·simp only[if_neg h1,if_pos h2];intro b h3 h4;have:=old x hx h1 Rg b h3
       have:=(hb b h4).1
       omega
      ·simp only[if_neg h1,if_neg h2];rw[getD_set_ne false (fun h=>h1 h.symm)]at Rg;rw[getD_set_ne false (fun h=>h2 h.symm)]at fR;exact Aw.2 x hx y hy Rg fR Az
    ·intro W' oz;obtain ⟨v1,_,hK⟩:=T9 W' (XA.trans oz);have:=same _ _ _ _ jV hK
     rw[hd]at this hK;rw[this];exact hK
   unfold wpOp;simp only[ho];have XH:Region.wanted o (yielded l.toArray (fill listed g al aA).tmps)=true:=by unfold Region.wanted;rw[hg]
   rw[if_pos XH];refine .inl ?_;unfold Oper.wp;rw[hex,Qa];generalize (execOp F.eval o).run P w=r at hstep
   cases r with
   |halt x w'=>exact hstep.elim
   |ok nx w'=>
    cases nx <;> simp only at hstep <;> simp only[Oper.upon]
    case value v=>exact next v w' hstep.1 hstep.2.1 hstep.2.2
    case enter fn args=>
     obtain ⟨rfl,hc⟩:=hstep;exact hc.mono fun en Bg ⟨v,hv,h1,h2,h3⟩=>by subst hv;exact next v Bg h1 h2 h3
  ·
   have ha':(LT al).contains i=false:=by simpa using ha
   have Lj:∀e∈al,e.i≠i/\e.s∉o.looksAt l.toArray/\o.dst≠some e.s:=by
    intro e he;have Az:e.i≠i:=fun h=>ha (by simp only[contains_eq_mem,decide_eq_true_eq];exact List.mem_map.2 ⟨e,he,h⟩)
    have:=hm.blind i o hin DK e he
    exact ⟨Az,this.1,this.2.resolve_left Az⟩
   obtain ⟨v,hy,hK⟩:=T9 w (AA.refl w);rw[WI n (LT al) i o hin ha']at hy;have H_:=Region.noSelect_spec hm.Yi;have hex:=FD (l:=l) listed g o (fun cs b=>H_ i o cs b ho) al aA (fun e he=>(Lj e he).2.1);have pI:=EJ (l:=l) listed g o al aA (fun e he=>(Lj e he).2.1);have fR:yielded (CC n (LT al) 0 l).toArray aA.tmps=yielded l.toArray aA.tmps\/True:=.inr trivial;have XJ:Region.wanted o (yielded (CC n (LT al) 0 l).toArray aA.tmps)=Region.wanted o (yielded l.toArray aA.tmps):=by
    unfold Region.wanted
    cases J8:o.guard with
    |none=>rfl
    |some gb=>
     obtain ⟨gi,b⟩:=gb;have jJ:=hm.guard i o hin DK gi b J8;have:yielded (CC n (LT al) 0 l).toArray aA.tmps gi=yielded l.toArray aA.tmps gi:=by
      unfold yielded;rw[getElem?_toArray,getElem?_toArray,EF,zero_add]
      cases l[gi]? with
      |none=>rfl
      |some og=>simp only[map_some,Option.bind_some,LO n (LT al) gi og jJ]
     simp only[this]
   have iF:YieldsIn P l.toArray (AA w) o v (fill listed g al aA):=by
    unfold YieldsIn Oper.quietAt at hy ⊢;rw[hex,pI,<-XJ];exact hy
   refine wpOp_of_qOp (C:=AA w) (AA.refl w) (K:=fun a'=>a'=(fill listed g al aA).put o.dst v) ?_ (iF.qOp ho rfl);rintro a' w' XA rfl;rw[<-Ep listed g o.dst v al aA (fun e he=>(Lj e he).2.2)];rw[DP listed (listed.setIfInBounds i true) g g al _ (fun e he=>⟨(getD_set_ne false (fun h=>(Lj e he).1 h.symm)).symm,rfl⟩)];refine ih _ _ _ _ fU Jz (hw.trans XA) ?_ ?_
   ·have:=Aw.later hstab XA
    refine ⟨fun e he hl=>this.1 e he ?_,fun e he e' MU hl nV=>this.2 e he e' MU ?_ ?_⟩
    ·rwa [getD_set_ne false (fun h=>(Lj e he).1 h.symm)]at hl
    ·rwa [getD_set_ne false (fun h=>(Lj e he).1 h.symm)]at hl
    ·rwa [getD_set_ne false (fun h=>(Lj e' MU).1 h.symm)]at nV
   ·intro W' oz;obtain ⟨v2,_,hK2⟩:=T9 W' (XA.trans oz);have:=same _ _ _ _ hK hK2
    rw[this];exact hK2
theorem Ac{id:Nat}{Q:Exit->Act->World->Prop}{a F:Act}{w:World}(n:Nat)(al:List Hy)(hm:P.follows .mixedOrders=true)(hB:te l n (al.map fun e=>(e.i,e.s))=true)(N_:al.Pairwise fun x y=>x.i≠y.i)
 (hstab:∀e∈al,∀v w w',AA w w'->e.is v w->e.is v w')
 (hlex:∀U:BA w,wpQuiet P (CC n (LT al) 0 l).toArray (fun w'=>∃u:BA (later U),w'=later u) (· =F) (CC n (LT al) 0 l) a)
 (hown:∀e∈al,∀o,l[e.i]?=some o->Tu P w F e o)
 (htail:∀(g:Nat->Value) (u:BA w),(∀e∈al,e.is (g e.i) (later u)/\∀b,vblk (g e.i)=some b->w.heap.size<=b/\b<(later u).heap.size)->(∀e∈al,∀e'∈al,e.i≠e'.i->∀b,vblk (g e.i)=some b->vblk (g e'.i)≠some b)->wpList P l.toArray Q (l.drop n) (Ay g al F) (later u)):
 (Code.region id l.toArray true).wp P Q a w:=by
 have hk:=wH hB;have Dc:=hk.lex;simp only[Region.lexB,Bool.and_eq_true]at Dc;have QB:HeadInv .any l.toArray n (Array.replicate l.toArray.size false):=⟨by simp,fun j oj _ h=>(by rw[getD_replicate_false]at h;cases h),fun t _ ht=>(by
  have lX:t<l.length:=by simpa using ht
  simp[lX])⟩
 have KJ:∀k,k<=l.length->EV (Array.replicate l.toArray.size false) k=k:=by
  intro k
  induction k with
  |zero=>intro _;rfl
  |succ k ih=>intro hk;simp only[EV,getD_replicate_false,ih (by omega)];simp
 have Hx:n+(l.length-n)=l.length:=by have:=hk.NK;omega
 refine wp_region_any hm ?_;have hr:({w with drawn:=w.drawn+1}:World)=w.drew:=rfl;rw[hr];have M6:fill (Array.replicate l.toArray.size false) (fun _=>undef) al a=a:=by
  have:∀es:List Hy,fill (Array.replicate l.toArray.size false) (fun _=>undef) es a=a:=by
   intro es
   induction es with
   |nil=>rfl
   |cons e es ih=>simp only[fill,getD_replicate_false,ih];simp
  exact this al
 have:=mt (P:=P) (W:=w) (Q:=Q) (F:=F) hk N_ hstab hown (fun g w' xV h1 h2=>by
  obtain ⟨u,rfl⟩:=xV;exact htail g u h1 h2) n (Array.replicate l.toArray.size false) a w.drew (fun _=>undef) (KJ n hk.NK) QB (AA.refl w).drew
  ⟨fun e _ h=>(by rw[getD_replicate_false]at h;cases h),fun e _ e' _ h=>(by rw[getD_replicate_false]at h;cases h)⟩ (fun W' oz=>by
   obtain ⟨U,hU⟩:=(AA.refl w).drew.trans oz;subst hU;have hl:=wpAnyQ_lex (P:=P) (C:=fun w'=>∃u:BA (later U),w'=later u) (Q:=(· =F)) (md:=.any) Dc.1 (CC n (LT al) 0 l) 0 (Array.replicate (CC n (LT al) 0 l).toArray.size false) a (by simp) (by simpa using Dc.2) (hlex U);rw[Hx];have hC:(fun w'=>∃u:BA (later U),w'=later u)=AA (later U):=rfl;rw[hC]at hl;simpa[Hk] using hl)
 rw[Hx,M6]at this;simpa using this
theorem AE{w:World}{g:Nat}{c:Array Value}{t:TypeId}(h:w.heap[g]?=some (.cells c t))(j:Nat):w.cell? ⟨g,j,none⟩=c[j]?:=by simp[World.cell?,h]
theorem Bq{w:World}{g:Nat}{c:Array Value}{t:TypeId}(h:w.heap[g]?=some (.cells c t))(j:Nat):w.frozen? ⟨g,j,none⟩=false:=by simp[World.frozen?,h]
theorem As{w:World}{g:Nat}{o:Obj}(h:w.heap[g]?=some o):g<w.heap.size:=by
 rcases lt_or_ge g w.heap.size with h'|h'
 ·exact h'
 ·rw[Array.getElem?_eq_none h']at h;cases h
theorem AB{w w':World}{g:Nat}{o:Obj}(h:AA w w')(s:w.heap[g]?=some o):w'.heap[g]?=some o:=(h.below.block g (As s)).trans s
theorem Ae{w:World}{o:Obj}{k:Nat}(h:k=w.heap.size):(w.alloc o).heap[k]?=some o:=by subst h;show (w.heap.push o)[w.heap.size]?=_;simp
theorem I4{w:World}{o:Obj}{k:Nat}{x:Option Obj}(h:k<w.heap.size)(r:w.heap[k]?=x):(w.alloc o).heap[k]?=x:=(Below.heap_alloc w o k h).trans r
theorem Df{w:World}{k:Nat}{x:Option Obj}(r:w.heap[k]?=x):w.drew.heap[k]?=x:=r
theorem Bh{w:World}{k b i:Nat}{v:Value}{x:Option Obj}(h:k≠b)(r:w.heap[k]?=x):(w.setCell ⟨b,i,none⟩ v).heap[k]?=x:=(Below.heap_setCell w ⟨b,i,none⟩ v k h).trans r
theorem BI{w:World}{b i:Nat}{v:Value}{c C:Array Value}{t:TypeId}(h:w.heap[b]?=some (.cells c t))(e:c.setIfInBounds i v=C):(w.setCell ⟨b,i,none⟩ v).heap[b]?=some (.cells C t):=by
 subst e;simp[World.setCell,Array.getElem?_modify,h]
theorem Ak{w w':World}{p:Addr}{x:Value}(h:AA w w')(c:w.cell? p=some x):w'.cell? p=some x:=(h.below.cell (World.block_lt_of_cell? _ _ c)).trans c
def GZ(ob:Obj)(v:Value)(w:World):Prop:=∃b,v=.pointer (some ⟨b,0,none⟩)/\w.heap[b]?=some ob
theorem EI{ob:Obj}{v:Value}{w w':World}(h:AA w w')(s:GZ ob v w):GZ ob v w':=by
 obtain ⟨b,h1,h2⟩:=s;exact ⟨b,h1,AB h h2⟩
theorem kR{P:Program}{W:World}{F:Act}{i:Nat}{s:Tmp}{ob:Obj}{o:Oper}(h:∀(ρ:Operand->Value) (w:World),(execOp ρ o).run P w=.ok (.value (.pointer (some ⟨w.heap.size,0,none⟩))) (w.alloc ob)):Tu P W F ⟨i,s,GZ ob⟩ o:=by
 intro w hw;rw[h];refine ⟨(AA.refl w).alloc ob,⟨w.heap.size,rfl,Ae rfl⟩,fun b hb=>?_⟩;simp only[vblk,Option.some.injEq]at hb;subst hb;exact ⟨Nat.le_refl _,by show _<(w.heap.push ob).size;simp⟩
theorem BW{P:Program}{c:Code}{Q:Exit->Act->World->Prop}{a:Act}{w:World}(R:World->Prop)(h:R w)(k:∀w,R w->c.wp P Q a w):c.wp P Q a w:=k w h
theorem AQ{P:Program}{f:FuncId}{args:Array Value}{Q:Ending->World->Prop}{w:World}(R:World->Prop)(h:R w)(k:∀w,R w->Calls P f args w Q):Calls P f args w Q:=k w h
end
theorem BQ{W w:World}(h:AA W w:=by repeat' (first|with_reducible assumption|with_reducible exact AA.refl _|with_reducible apply AA.setCell|with_reducible apply AA.later|with_reducible apply AA.drewN|with_reducible apply AA.drew|with_reducible apply AA.alloc|((try simp only[World.size_alloc,World.size_setCell,World.size_drew]);(try dsimp only);omega))):AA W w:=h
theorem CG{w:World}{k:Nat}{c:Obj}(h:w.heap[k]?=some c:=by ((repeat (first|with_reducible assumption|((with_reducible apply Ae);(try simp only[World.size_alloc,World.size_setCell,World.size_drew,World.heap_drewN]);done)|((with_reducible apply Ae);(try simp only[World.size_alloc,World.size_setCell,World.size_drew,World.heap_drewN]);omega)|(with_reducible refine I4 (by (try simp only[World.size_alloc,World.size_setCell,World.size_drew,World.heap_drewN]);omega) ?_)|(with_reducible refine Df ?_)|(with_reducible refine Bh (by omega) ?_)|(with_reducible apply BI)));all_goals rfl)):w.heap[k]?=some c:=h
theorem AC{p:Prop}(h:p):Go.RowKit.Hid p:=h
theorem Bp{a b:Prop}(k:b)(h:a=b:=by simp only[Ay,Act.put,List.setIfInBounds_toArray,List.set_cons_zero,List.set_cons_succ] <;> exact rfl):a:=h ▸ k
theorem DH{a b:Prop}(k:b)(h:a=b:=by simp only[Ay,Act.put,List.setIfInBounds_toArray,List.set_cons_zero,List.set_cons_succ,List.drop_succ_cons,List.drop_zero,List.drop_nil] <;> exact rfl):a:=h ▸ k
theorem Hj{a b:Prop}(k:b)(h:a=b:=by simp only[List.map_cons,List.map_nil,CA.act,actFrom,actOp,List.lookup,Nat.reduceBEq,Nat.reduceLeDiff,Nat.reduceAdd,if_false,if_true] <;> exact rfl):a:=h ▸ k
theorem Ku{a b:Prop}(k:b)(h:a=b:=by simp only[CC,Gj,LT,List.map_cons,List.map_nil,List.contains_cons,List.contains_nil,Nat.reduceBEq,Bool.or_false,Bool.false_or,Bool.true_or,Bool.or_true,Bool.false_eq_true,Nat.reduceLeDiff,Nat.reduceAdd,if_false,if_true] <;> exact rfl):a:=h ▸ k
theorem GH{w:World}{g:Nat}{c:Array Value}{t:TypeId}(h:w.heap[g]?=some (.cells c t)):(∀j:Nat,w.cell? ⟨g,j,none⟩=c[j]?)/\(∀j:Nat,w.frozen? ⟨g,j,none⟩=false)/\g<w.heap.size:=⟨AE h,Bq h,As h⟩
theorem Rn{w:World}{g:Nat}{c:Array Value}{t:TypeId}(h:w.heap[g]?=some (.cells c t)):(∀j:Nat,w.cell? ⟨g,j,none⟩=c[j]?)/\g<w.heap.size:=⟨AE h,As h⟩
theorem DX{w:World}{g:Nat}{c:Array Value}{t:TypeId}(h:w.heap[g]?=some (.cells c t)):(∀j:Nat,w.cell? ⟨g,j,none⟩=c[j]?)/\∀j:Nat,w.frozen? ⟨g,j,none⟩=false:=⟨AE h,Bq h⟩
theorem JL{P:Program}{c:Code}{Q:Exit->Act->World->Prop}{a:Act}{w:World}(W:World)(k:Nat)(o:Obj)(g:∀w,AA W w->w.heap[k]?=some o->c.wp P Q a w)(h:AA W w:=by exact BQ)(h2:w.heap[k]?=some o:=by exact CG):c.wp P Q a w:=g w h h2
theorem AD{p:Prop}(h:p:=by omega):p:=h
theorem AY{p:Prop}(h:p:=by kernel_rfl):p:=h
theorem Ar{p:Prop}(h:p:=by simp):p:=h
theorem BZ{α:Sort _}(a:α):∃x,a=x:=⟨_,rfl⟩
theorem Cv{a b:Prop}(x:a)(h:a=b:=by simp only[List.mem_cons,List.not_mem_nil,or_false] <;> exact rfl):b:=h ▸ x
end
section
def actOp(n:Nat)(AK:List (Nat × Value))(i:Nat)(o:Oper):Oper:=
 if n<=i then {o with dst:=none,op:=.move (.const undef)} else match AK.lookup i with|some v=>{o with op:=.move (.const v)}|none=>o
def actFrom(n:Nat)(AK:List (Nat × Value)):Nat->List Oper->List Oper
 |_,[]=>[]
 |i,o::l=>actOp n AK i o::actFrom n AK (i+1) l
theorem BB(n:Nat)(AK:List (Nat × Value)):∀(l:List Oper) (k j:Nat),(actFrom n AK k l)[j]?=(l[j]?).map (actOp n AK (k+j))
 |[],_,_=>by simp[actFrom]
 |o::l,k,0=>by simp[actFrom]
 |o::l,k,j+1=>by
  simp only[actFrom,List.getElem?_cons_succ];rw[BB n AK l (k+1) j,show k+1+j=k+(j+1) by omega]
theorem Cy(n:Nat)(AK:List (Nat × Value)):∀(l:List Oper) (k:Nat),(actFrom n AK k l).length=l.length
 |[],_=>rfl
 |o::l,k=>by simp[actFrom,Cy n AK l (k+1)]
theorem Wq(n:Nat)(AK:List (Nat × Value))(i:Nat)(o:Oper):(actOp n AK i o).after=o.after:=by
 unfold actOp;split
 ·rfl
 ·split <;> rfl
theorem GU(n:Nat)(AK:List (Nat × Value))(i:Nat)(o:Oper):(actOp n AK i o).guard=o.guard:=by
 unfold actOp;split
 ·rfl
 ·split <;> rfl
theorem Br(n:Nat)(AK:List (Nat × Value))(i:Nat)(o:Oper)(h:i<n):(actOp n AK i o).dst=o.dst:=by
 unfold actOp;rw[if_neg AD];split <;> rfl
theorem CH(n:Nat)(AK:List (Nat × Value))(i:Nat)(o:Oper)(h:n<=i):(actOp n AK i o).dst=none:=by
 unfold actOp;rw[if_pos h]
theorem GS(n:Nat)(AK:List (Nat × Value))(i:Nat)(o:Oper)(h:i<n)(ha:AK.lookup i=none):actOp n AK i o=o:=by
 unfold actOp;rw[if_neg AD,ha]
theorem Ip(n:Nat)(AK:List (Nat × Value))(i:Nat)(o:Oper)(v:Value)(h:i<n)(ha:AK.lookup i=some v):actOp n AK i o={o with op:=.move (.const v)}:=by
 unfold actOp;rw[if_neg AD,ha]
def m7(l:List Oper)(n:Nat)(is:List Nat):Bool:=
 Region.noSelect l.toArray && decide (n<=l.length) &&
 ((range l.length).all fun i=>match l[i]? with|some o=>o.after.all fun e=> !Region.binds .any e || decide (e.on<i)|none=>true) &&
 ((range n).all fun i=>match l[i]? with|some o=>(match o.guard with|some (g,_)=>decide (g<n)|none=>true)|none=>true) &&
 (is.all fun i=>decide (i<n) &&
  match l[i]? with
  |some o=>(range n).all fun j=>match (l[j]?).bind (·.dst) with
   |some t=> !(o.looksAt l.toArray).contains t || o.after.any fun ed=>Region.binds .any ed && ed.on == j
   |none=>true
  |none=>false) &&
 ((range (is.length-1)).all fun k=>match l[is.getD (k+1) 0]? with|some o=>o.after.any fun ed=>Region.binds .any ed && ed.on == is.getD k 0|none=>false) &&
 ((range is.length).all fun j=>(range is.length).all fun k=>j == k || is.getD j 0 != is.getD k 0) &&
 ((range n).all fun i=>(range n).all fun j=>i == j || match (l[i]?).bind (·.dst),(l[j]?).bind (·.dst) with|some d,some d'=>d != d'|_,_=>true) &&
 (n == l.length || (Region.sinkB .any l.toArray n && Region.chainB .any l.toArray n)) &&
 Region.seqB .any l.toArray (l.length-n) n (Array.replicate n true++Array.replicate (l.length-n) false)
section
variable {P:Program}{l:List Oper}{n:Nat}{AK:List (Nat × Value)}
theorem Iv(listed:Array Bool):Region.ready .any (actFrom n AK 0 l).toArray listed=Region.ready .any l.toArray listed:=by
 unfold Region.ready;rw[size_toArray,size_toArray,Cy]
 congr 1
 funext i
 rw[getElem?_toArray,getElem?_toArray,BB]
 cases l[i]? with
 |none=>rfl
 |some o=>simp only[map_some,Wq]
structure Z8(l:List Oper)(n:Nat)(AK:List (Nat × Value)):Prop where
 Yi:Region.noSelect l.toArray=true
 NK:n<=l.length
 back:∀(i:Nat) (o:Oper),l[i]?=some o->∀e∈o.after,Region.binds .any e=true->e.on<i
 guard:∀(i:Nat) (o:Oper),i<n->l[i]?=some o->∀g b,o.guard=some (g,b)->g<n
 made:∀e∈AK,e.1<n/\∀o,l[e.1]?=some o->∀(j:Nat) (o':Oper),j<n->l[j]?=some o'->∀t,o'.dst=some t->t∈o.looksAt l.toArray->∃ed∈o.after,Region.binds .any ed=true/\ed.on=j
 chain:∀(k:Nat) (h:k+1<AK.length),∀o,l[AK[k+1].1]?=some o->∃ed∈o.after,Region.binds .any ed=true/\ed.on=AK[k].1
 nodup:∀(j k:Nat) (hj:j<AK.length) (hk:k<AK.length),AK[j].1=AK[k].1->j=k
 RZ:∀i j:Nat,i<n->j<n->i≠j->∀o o':Oper,l[i]?=some o->l[j]?=some o'->∀d,o.dst=some d->o'.dst≠some d
 tail:n=l.length\/(Region.sinkB .any l.toArray n=true/\Region.chainB .any l.toArray n=true)
 seq:Region.seqB .any l.toArray (l.length-n) n (Array.replicate n true++Array.replicate (l.length-n) false)=true
theorem K_{k:Nat}(h:k<AK.length):(AK.map (·.1)).getD k 0=AK[k].1:=by simp[h]
theorem pc(h:m7 l n (AK.map (·.1))=true):Z8 l n AK:=by
 unfold m7 at h;simp only[Bool.and_eq_true]at h;obtain ⟨⟨⟨⟨⟨⟨⟨⟨⟨h1,h2⟩,h3⟩,h4⟩,h5⟩,h6⟩,h7⟩,h8⟩,h9⟩,YM⟩:=h;refine ⟨h1,by simpa using h2,?_,?_,?_,?_,?_,?_,?_,YM⟩
 ·intro i o ho e he hb;have hi:i<l.length:=(List.getElem?_eq_some_iff.1 ho).1;have:=List.all_eq_true.1 h3 i (List.mem_range.2 hi)
  rw[ho]at this;have:=Array.all_eq_true'.1 this e he
  simpa[hb] using this
 ·intro i o hi ho g b hg;have:=List.all_eq_true.1 h4 i (List.mem_range.2 hi)
  rw[ho]at this;simp only[hg]at this;simpa using this
 ·intro e he;have:=List.all_eq_true.1 h5 e.1 (List.mem_map.2 ⟨e,he,rfl⟩)
  rw[Bool.and_eq_true]at this;refine ⟨by simpa using this.1,fun o ho j o' hj DK t ht BN=>?_⟩;have g3:=this.2;rw[ho]at g3;have:=List.all_eq_true.1 g3 j (List.mem_range.2 hj)
  rw[DK,Option.bind_some,ht]at this;simp only[Bool.or_eq_true,Bool.not_eq_true',contains_eq_mem,decide_eq_false_iff_not,Array.any_eq_true',Bool.and_eq_true,beq_iff_eq]at this;rcases this with h|⟨ed,h,hb⟩
  ·exact absurd BN h
  ·exact ⟨ed,h,hb⟩
 ·intro k hk o ho;have:=List.all_eq_true.1 h6 k (List.mem_range.2 (by rw[length_map];omega))
  rw[K_ hk,K_ AD,ho]at this;simp only[Array.any_eq_true',Bool.and_eq_true,beq_iff_eq]at this;obtain ⟨ed,h,hb⟩:=this;exact ⟨ed,h,hb⟩
 ·intro j k hj hk he;have:=List.all_eq_true.1 (List.all_eq_true.1 h7 j (List.mem_range.2 (by rw[length_map];exact hj))) k (List.mem_range.2 (by rw[length_map];exact hk))
  rw[K_ hj,K_ hk,he]at this;simpa using this
 ·intro i j hi hj Fr o o' ho DK d hd mL;have:=List.all_eq_true.1 (List.all_eq_true.1 h8 i (List.mem_range.2 hi)) j (List.mem_range.2 hj)
  rw[ho,DK]at this;simp[Fr,hd,mL]at this
 ·rcases Bool.or_eq_true_iff.1 h9 with h|h
  ·exact .inl (by simpa using h)
  ·exact .inr (by simpa only[Bool.and_eq_true] using h)
theorem Lm(hm:Z8 l n AK){listed:Array Bool}(inv:HeadInv .any l.toArray n listed){i:Nat}(hi:i<n)(G3:listed.getD i true=false):∀t∈Region.ready .any l.toArray listed,t<n:=by
 intro t ht;rcases lt_or_ge t n with h|h
 ·exact h
 ·obtain ⟨_,o,ho,_⟩:=mem_ready.1 ht;have yS:t<l.length:=by have:=(Array.getElem?_eq_some_iff.1 ho).1;simpa using this
  rcases hm.tail with he|⟨hs,hc⟩
  ·omega
  ·exact absurd ht (tail_waits hs hc (by simp;omega) inv _ i rfl hi G3 t h)
def Jb(P:Program)(F:Act)(o:Oper)(v:Value)(w:World)(R:World->Prop):Prop:=
 match (execOp F.eval o).run P w with
 |.ok (.value u) w'=>u=v/\R w'
 |.ok .skip w'=>v=undef/\R w'
 |.ok (.enter f args) w'=>w'=w/\Calls P f args w fun e Bg=>e=.returned v/\R Bg
 |_=>False
theorem F5{i:Nat}{v:Value}:∀{AK:List (Nat × Value)},AK.lookup i=some v->∃j,∃h:j<AK.length,AK[j]=(i,v)
 |[],h=>by simp at h
 |(k,u)::r,h=>by
  rw[List.lookup_cons]at h;split at h
  ·rename_i hk
   cases h;exact ⟨0,Ar,by rw[eq_of_beq hk];rfl⟩
  ·obtain ⟨j,hj,e⟩:=F5 h;exact ⟨j+1,by simpa using hj,by simpa using e⟩
theorem mR{Q:Exit->Act->World->Prop}{F:Act}{C:World->Prop}{St:Nat->World->Prop}(hm:Z8 l n AK)
 (hact:∀(j:Nat) (h:j<AK.length),∀o,l[AK[j].1]?=some o->Region.wanted o (yielded l.toArray F.tmps)=true/\∀w,C w->St j w->Jb P F o AK[j].2 w fun w'=>C w'/\St (j+1) w')
 (htail:∀w,C w->St AK.length w->wpList P l.toArray Q (l.drop n) F w):
 ∀(f:Nat) (listed:Array Bool) (aA:Act) (w:World) (k:Nat),EV listed n=f->HeadInv .any l.toArray n listed->C w->St k w->k<=AK.length->(∀(j:Nat) (h:j<AK.length),listed.getD AK[j].1 false=decide (j<k))->
  (∀U,C U->wpAnyQ P .any (actFrom n AK 0 l).toArray (fun w'=>w'=U) (· =F) (f+(l.length-n)) listed aA)->wpAny P .any l.toArray Q (f+(l.length-n)) listed aA w:=by
 intro f
 induction f with
 |zero=>
  intro listed aA w k hf inv hC hS hk X2 hA;have Ca:=FJ n hf;have hl:listed=Array.replicate n true++Array.replicate (l.length-n) false:=by
   apply Array.ext
   ·have:=inv.size;simp at this ⊢;have:=hm.NK;omega
   ·intro i h1 h2;rcases lt_or_ge i n with h|h
    ·have:=Ca i h
     simp[Array.getElem_append,h]at this ⊢;simpa[h1] using this
    ·have hs:=inv.size;have:=inv.tail i h (by simp at hs ⊢;omega)
     simp[Array.getElem_append,show ¬i<n by omega]at this ⊢;simpa[h1] using this
  obtain ⟨d1,d2,d3⟩:=Ax _ _ _ (hA w hC);have hF:aA=F:=by
   have ht:aA.tmps=F.tmps:=by
    apply Array.ext_getElem?
    intro s;refine d3 s (fun j o hj G3=>?_);rw[getElem?_toArray,BB]at hj
    cases hlj:l[j]? with
    |none=>rw[hlj]at hj;cases hj
    |some o'=>
     rw[hlj]at hj;simp only[map_some,Option.some.injEq]at hj;subst hj;rcases lt_or_ge j n with h|h
     ·have h1:=Ca j h;rcases lt_or_ge j listed.size with h'|h'
      ·simp[h']at h1 G3;rw[h1]at G3;cases G3
      ·simp[Array.getElem?_eq_none h']at h1
     ·rw[zero_add,CH n AK j o' h];simp
   cases aA;cases F;simp_all
  subst hF;have hkE:k=AK.length:=by
   rcases lt_or_ge k AK.length with h|h
   ·have h1:=X2 k h;rw[Ca _ (hm.made _ (getElem_mem h)).1]at h1;simp at h1
   ·omega
  subst hkE;have PH:=htail w hC hS;have Ko:=hm.seq;rw[<-hl]at Ko;have Hx:(l.drop n).length=l.length-n:=Ar;rw[zero_add];have:=wpAny_of_seq (P:=P) (Q':=Q) (ops:=l.toArray) (md:=.any) (l.drop n) n listed aA w (fun j=>by simp) (by rw[Hx];exact Ko) PH
  rwa [Hx]at this
 |succ f ih=>
  intro listed aA w kk hf inv hC hS hk X2 hA;obtain ⟨k,hZ,Pt,KO⟩:=Fz (listed:=listed) n AD;have Oo:listed.size=l.length:=by have:=inv.size;simpa using this
  have fk:=hm.NK;have GN:listed.getD k true=false:=getD_in AD Pt;have UV:k∈Region.ready .any l.toArray listed:=by
   refine mem_ready.2 ⟨GN,l[k]'AD,Ar,fun e he hb=>?_⟩;have:=hm.back k _ (List.getElem?_eq_getElem AD) e he hb
   exact KO _ this
  rw[show f+1+(l.length-n)=f+(l.length-n)+1 by omega];refine ⟨fun h0=>(by rw[h0]at UV;cases UV),fun i hi=>?_⟩;have hin:=Lm hm inv hZ GN i hi;obtain ⟨G3,o,ho,FC⟩:=mem_ready.1 hi;have DK:l[i]?=some o:=by simpa using ho
  have Jo:listed.getD i false=false:=getD_both G3;have iz:(actFrom n AK 0 l).toArray[i]?=some (actOp n AK i o):=by
   rw[getElem?_toArray,BB,DK,zero_add];rfl
  have Jz:=inv.set hi hin;have fU:EV (listed.setIfInBounds i true) n=f:=by
   have:=Hg (k:=n) AD Jo
   rw[if_pos hin]at this;omega
  have T9:∀U,C U->∃v,YieldsIn P (actFrom n AK 0 l).toArray (fun w'=>w'=U) (actOp n AK i o) v aA/\
   wpAnyQ P .any (actFrom n AK 0 l).toArray (fun w'=>w'=U) (· =F) (f+(l.length-n)) (listed.setIfInBounds i true) (aA.put o.dst v):=by
   intro U hU;have h1:=hA U hU;rw[show f+1+(l.length-n)=f+(l.length-n)+1 by omega]at h1;have h2:=h1.2 i (by rw[Iv];exact hi);obtain ⟨v,hy,hK⟩:=yieldsIn_of_qOp iz h2;rw[Br n AK i o hin]at hK;exact ⟨v,hy,hK⟩
  have same:∀U1 U2 v1 v2,wpAnyQ P .any (actFrom n AK 0 l).toArray (fun w'=>w'=U1) (· =F) (f+(l.length-n)) (listed.setIfInBounds i true) (aA.put o.dst v1)->
   wpAnyQ P .any (actFrom n AK 0 l).toArray (fun w'=>w'=U2) (· =F) (f+(l.length-n)) (listed.setIfInBounds i true) (aA.put o.dst v2)->aA.put o.dst v1=aA.put o.dst v2:=by
   intro U1 U2 v1 v2 h1 h2
   cases hd:o.dst with
   |none=>rfl
   |some d=>
    rw[hd]at h1 h2;have GL:∀(j:Nat) (o':Oper),(actFrom n AK 0 l).toArray[j]?=some o'->(listed.setIfInBounds i true).getD j true=false->o'.dst≠some d:=by
     intro j o' hj Fb;rw[getElem?_toArray,BB,zero_add]at hj
     cases hlj:l[j]? with
     |none=>rw[hlj]at hj;cases hj
     |some oj=>
      rw[hlj]at hj;simp only[map_some,Option.some.injEq]at hj;subst hj;rcases lt_or_ge j n with h|h
      ·rw[Br n AK j oj h];have Fr:i≠j:=by
        rintro rfl;have:(listed.setIfInBounds i true).getD i true=true:=by
         simp[show i<listed.size by omega]
        rw[this]at Fb;cases Fb
       exact hm.RZ i j hin h Fr o oj DK hlj d hd
      ·rw[CH n AK j oj h];simp
    have e1:=(Ax _ _ _ h1).2.2 d GL;have e2:=(Ax _ _ _ h2).2.2 d GL;have e3:=e1.trans e2.symm;simp only[Act.put,Array.getElem?_setIfInBounds_self]at e3 ⊢
    congr 1
    apply Array.ext_getElem?
    intro s;by_cases hs:d=s
    ·subst hs;rw[Array.getElem?_setIfInBounds_self,Array.getElem?_setIfInBounds_self];exact e3
    ·simp[Array.getElem?_setIfInBounds,hs]
  have XJ:Region.wanted o (yielded (actFrom n AK 0 l).toArray aA.tmps)=Region.wanted o (yielded l.toArray aA.tmps):=by
   unfold Region.wanted
   cases J8:o.guard with
   |none=>rfl
   |some gb=>
    obtain ⟨gi,b⟩:=gb;have jJ:=hm.guard i o hin DK gi b J8;have:yielded (actFrom n AK 0 l).toArray aA.tmps gi=yielded l.toArray aA.tmps gi:=by
     unfold yielded;rw[getElem?_toArray,getElem?_toArray,BB,zero_add]
     cases l[gi]? with
     |none=>rfl
     |some og=>simp only[map_some,Option.bind_some,Br n AK gi og jJ]
    simp only[this]
  obtain ⟨v0,XM,jV⟩:=T9 w hC;have cont:∀k2 w2,C w2->St k2 w2->k2<=AK.length->(∀(j:Nat) (h:j<AK.length),(listed.setIfInBounds i true).getD AK[j].1 false=decide (j<k2))->
   wpAny P .any l.toArray Q (f+(l.length-n)) (listed.setIfInBounds i true) (aA.put o.dst v0) w2:=by
   intro k2 w2 fZ D9 Gh UE;refine ih _ _ _ k2 fU Jz fZ D9 Gh UE ?_;intro U hU;obtain ⟨v1,_,hK⟩:=T9 U hU;have:=same _ _ _ _ jV hK
   rw[this];exact hK
  cases LX:AK.lookup i with
  |some v=>
   obtain ⟨j,hj,aR⟩:=F5 LX;have Lw:AK[j].1=i:=by rw[aR]
   have pO:AK[j].2=v:=by rw[aR]
   have hjk:j=kk:=by
    have h1:=X2 j hj;rw[Lw,Jo]at h1;have h2:¬j<kk:=by simpa using h1
    rcases Nat.eq_zero_or_pos j with h0|h0
    ·omega
    ·obtain ⟨j',rfl⟩:∃j',j=j'+1:=⟨j-1,AD⟩;obtain ⟨ed,NE,hb,Mr⟩:=hm.chain j' hj o (by rw[Lw];exact DK);have h3:=FC ed NE hb;rw[Mr,X2 j' AD]at h3;have:j'<kk:=by simpa using h3
     omega
   subst hjk;obtain ⟨mW,hstep⟩:=hact j hj o (by rw[Lw];exact DK);have hstep:=hstep w hC hS;rw[pO]at hstep;have J7:=(hm.made _ (getElem_mem hj)).2 o (by rw[Lw];exact DK);obtain ⟨_,_,M4⟩:=Ax _ _ _ (hA w hC);have ID:∀t,t∈o.looksAt l.toArray->aA.tmps[t]?=F.tmps[t]?:=by
    intro t B6;refine M4 t (fun j' oj Gw Fb Mo=>?_);rw[getElem?_toArray,BB,zero_add]at Gw
    cases hlj:l[j']? with
    |none=>rw[hlj]at Gw;cases Gw
    |some oj'=>
     rw[hlj]at Gw;simp only[map_some,Option.some.injEq]at Gw;subst Gw;rcases lt_or_ge j' n with h|h
     ·rw[Br n AK j' oj' h]at Mo;obtain ⟨ed,NE,hb,Mr⟩:=J7 j' oj' h hlj t Mo B6;have h1:=FC ed NE hb;rw[Mr,getD_both Fb]at h1;cases h1
     ·rw[CH n AK j' oj' h]at Mo;cases Mo
   have H_:=Region.noSelect_spec hm.Yi;have Qa:execOp aA.eval o=execOp F.eval o:=by
    refine execOp_congr o (fun cs b=>H_ i o cs b ho) fun x hx=>?_
    cases x with
    |tmp t=>
     have B6:t∈o.looksAt l.toArray:=List.mem_append_left _ (List.mem_filterMap.2 ⟨.tmp t,by simpa using hx,rfl⟩);simp only[Act.eval,Array.getD_eq_getD_getElem?,ID t B6]
    |_=>rfl
   have aK:Region.wanted o (yielded l.toArray aA.tmps)=true:=by
    rw[<-mW];unfold Region.wanted
    cases J8:o.guard with
    |none=>rfl
    |some gb=>
     obtain ⟨gi,b⟩:=gb;have:yielded l.toArray aA.tmps gi=yielded l.toArray F.tmps gi:=by
      unfold yielded
      cases hgi:l.toArray[gi]? with
      |none=>rfl
      |some og=>
       cases hdg:og.dst with
       |none=>simp[hdg]
       |some t=>
        have B6:t∈o.looksAt l.toArray:=by
         unfold Oper.looksAt;refine List.mem_append_right _ ?_;rw[J8];simp[hgi,hdg]
        simp[hdg,ID t B6]
     simp only[this]
   have TV:v0=v:=by
    rcases XM with ⟨_,hv⟩|⟨XH,_⟩
    ·have:=hv w rfl
     rw[Ip n AK i o v hin LX]at this;unfold Oper.quietAt at this;simp only[execOp,Sem.run_pure,Oper.quietUpon]at this;exact this.2.symm
    ·exfalso;have:Region.wanted (actOp n AK i o) (yielded (actFrom n AK 0 l).toArray aA.tmps)=Region.wanted o (yielded (actFrom n AK 0 l).toArray aA.tmps):=by
      unfold Region.wanted;rw[GU]
     rw[this,XJ,aK]at XH;cases XH
   subst TV;have UE:∀(j2:Nat) (h:j2<AK.length),(listed.setIfInBounds i true).getD AK[j2].1 false=decide (j2<j+1):=by
    intro j2 h2;by_cases e:j2=j
    ·subst e;rw[Lw];have:(listed.setIfInBounds i true).getD i false=true:=by simp[show i<listed.size by omega]
     rw[this];simp
    ·have Az:i≠AK[j2].1:=fun h=>e (hm.nodup j2 j h2 hj (by rw[Lw];exact h.symm))
     rw[getD_set_ne false Az,X2 j2 h2,decide_eq_decide];omega
   unfold wpOp;simp only[ho];rw[if_pos aK];refine .inl ?_;unfold Oper.wp;rw[Qa];unfold Jb at hstep;generalize (execOp F.eval o).run P w=r at hstep
   cases r with
   |halt x w'=>exact hstep.elim
   |ok nx w'=>
    cases nx <;> simp only at hstep <;> simp only[Oper.upon]
    case value u=>obtain ⟨rfl,h1,h2⟩:=hstep;exact cont (j+1) w' h1 h2 AD UE
    case enter fn args=>
     obtain ⟨rfl,hc⟩:=hstep;exact hc.mono fun en Bg ⟨he,h1,h2⟩=>by subst he;exact cont (j+1) Bg h1 h2 AD UE
    all_goals first|exact hstep.elim|(obtain ⟨rfl,h1,h2⟩:=hstep;exact cont (j+1) w' h1 h2 AD UE)
  |none=>
   have Lj:=XM;rw[GS n AK i o hin LX]at Lj;have iF:YieldsIn P l.toArray (fun w'=>w'=w) o v0 aA:=by
    unfold YieldsIn at Lj ⊢;rw[<-XJ];exact Lj
   refine wpOp_of_qOp (C:=fun w'=>w'=w) rfl (K:=fun a'=>a'=aA.put o.dst v0) ?_ (iF.qOp ho rfl);rintro a' w' rfl rfl;refine cont kk _ hC hS hk (fun j hj=>?_);have Az:i≠AK[j].1:=by
    intro h;have:AK.lookup i≠none:=by
     rw[h];intro hn;rw[List.lookup_eq_none_iff]at hn;have:=hn _ (getElem_mem hj)
     simp at this
    exact this LX
   rw[getD_set_ne false Az,X2 j hj]
theorem Fg{id:Nat}{Q:Exit->Act->World->Prop}{a F:Act}{w:World}(n:Nat)(AK:List (Nat × Value))(C:World->Prop)(St:Nat->World->Prop)(hm:P.follows .mixedOrders=true)(hB:m7 l n (AK.map (·.1))=true)(Dc:Region.lexB .any (actFrom n AK 0 l).toArray=true)
 (hC:C w.drew) (hS:St 0 w.drew)
 (hlex:∀U,C U->wpQuiet P (actFrom n AK 0 l).toArray (fun w'=>w'=U) (· =F) (actFrom n AK 0 l) a)
 (hact:∀(j:Nat) (h:j<AK.length),∀o,l[AK[j].1]?=some o->Region.wanted o (yielded l.toArray F.tmps)=true/\∀w,C w->St j w->Jb P F o AK[j].2 w fun w'=>C w'/\St (j+1) w')
 (htail:∀w,C w->St AK.length w->wpList P l.toArray Q (l.drop n) F w):
 (Code.region id l.toArray true).wp P Q a w:=by
 have hk:=pc hB;simp only[Region.lexB,Bool.and_eq_true]at Dc;have QB:HeadInv .any l.toArray n (Array.replicate l.toArray.size false):=⟨Ar,fun j oj _ h=>(by rw[getD_replicate_false]at h;cases h),fun t _ ht=>(by
  have lX:t<l.length:=by simpa using ht
  simp[lX])⟩
 have KJ:∀k,k<=l.length->EV (Array.replicate l.toArray.size false) k=k:=by
  intro k
  induction k with
  |zero=>intro _;rfl
  |succ k ih=>intro hk;simp only[EV,getD_replicate_false,ih AD];simp
 have Hx:n+(l.length-n)=l.length:=by have:=hk.NK;omega
 refine wp_region_any hm ?_;have hr:({w with drawn:=w.drawn+1}:World)=w.drew:=rfl;rw[hr];have:=mR (P:=P) (Q:=Q) (F:=F) (C:=C) (St:=St) hk hact htail n (Array.replicate l.toArray.size false) a w.drew 0 (KJ n hk.NK) QB hC hS (Nat.zero_le _) (fun j hj=>by rw[getD_replicate_false];simp) (fun U hU=>by
  have hl:=wpAnyQ_lex (P:=P) (C:=fun w'=>w'=U) (Q:=(· =F)) (md:=.any) Dc.1 (actFrom n AK 0 l) 0 (Array.replicate (actFrom n AK 0 l).toArray.size false) a Ar (by simpa using Dc.2) (hlex U hU);rw[Hx];simpa[Cy] using hl)
 rw[Hx]at this;simpa using this
theorem bQ{F:Act}{o:Oper}{v:Value}{w w':World}{R:World->Prop}(hr:(execOp F.eval o).run P w=.ok (.value v) w')(h:R w'):Jb P F o v w R:=by
 unfold Jb;rw[hr];exact ⟨rfl,h⟩
theorem JG{F:Act}{o:Oper}{v:Value}{w:World}{f:FuncId}{args:Array Value}{R:World->Prop}(hr:(execOp F.eval o).run P w=.ok (.enter f args) w)(h:Calls P f args w fun e Bg=>e=.returned v/\R Bg):Jb P F o v w R:=by
 unfold Jb;rw[hr];exact ⟨rfl,h⟩
def yp(Ps:List (World->Prop))(j:Nat)(w:World):Prop:=(Ps.getD j fun _=>False) w
end
end
end Go.Proofs.YtamhnffokoejjaaGreatDoor
