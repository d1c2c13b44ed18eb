import Derived.Test.YtamhnffokoejjaaGreatDoorKwab
set_option linter.all false
namespace Go.Proofs.YtamhnffokoejjaaGreatDoor
open List(range getElem?_toArray getElem_mem getElem?_eq_getElem length_map)
open Nat(lt_or_ge zero_add)
open Option(map_some)
open Go.RowKit
section
def OG(l:List Oper)(n:Nat)(is:List Nat)(al:List (Nat × Tmp)):Bool:=
 (al.all fun e=>is.contains e.1 && (al.all fun e'=>(e.1 == e'.1) == (e.2 == e'.2)) && match l[e.1]? with|some o=>o.dst == some e.2|none=>false) &&
 ((range n).all fun i=>match l[i]? with
  |some o=>(match o.guard with|some (g,_)=>(match (l[g]?).bind (·.dst) with|some t=>al.all fun e=>t != e.2|none=>true)|none=>true) &&
   (al.all fun e=>(is.contains i || !(o.looksAt l.toArray).contains e.2) && (e.1 == i || o.dst != some e.2))
  |none=>true)
section
variable {P:Program}{l:List Oper}{n:Nat}{AK:List (Nat × Value)}{al:List Hy}
structure QD(l:List Oper)(n:Nat)(is:List Nat)(al:List Hy):Prop where
 own:∀e∈al,e.i∈is/\∀e'∈al,(e.i=e'.i↔e.s=e'.s)
 dst:∀e∈al,∀o,l[e.i]?=some o->o.dst=some e.s
 guard:∀(i:Nat) (o:Oper),i<n->l[i]?=some o->∀g b,o.guard=some (g,b)->∀og t,l[g]?=some og->og.dst=some t->∀e∈al,t≠e.s
 blind:∀(i:Nat) (o:Oper),i<n->l[i]?=some o->∀e∈al,(i∈is\/e.s∉o.looksAt l.toArray)/\(e.i=i\/o.dst≠some e.s)
theorem TN{is:List Nat}(h:OG l n is (al.map fun e=>(e.i,e.s))=true):QD l n is al:=by
 unfold OG at h;rw[Bool.and_eq_true]at h;obtain ⟨h1,h2⟩:=h;have h1':∀e∈al,(is.contains e.i=true/\((al.map fun e=>(e.i,e.s)).all fun e'=>(e.i == e'.1) == (e.s == e'.2))=true)/\(match l[e.i]? with|some o=>o.dst == some e.s|none=>false)=true:=by
  intro e he;have:=List.all_eq_true.1 h1 (e.i,e.s) (List.mem_map.2 ⟨e,he,rfl⟩)
  simpa only[Bool.and_eq_true] using this
 have h2':∀(i:Nat) (o:Oper),i<n->l[i]?=some o->(match o.guard with|some (g,_)=>(match (l[g]?).bind (·.dst) with|some t=>(al.map fun e=>(e.i,e.s)).all fun e=>t != e.2|none=>true)|none=>true)=true/\
  ((al.map fun e=>(e.i,e.s)).all fun e=>(is.contains i || !(o.looksAt l.toArray).contains e.2) && (e.1 == i || o.dst != some e.2))=true:=by
  intro i o hi ho;have:=List.all_eq_true.1 h2 i (List.mem_range.2 hi)
  rw[ho]at this;simpa only[Bool.and_eq_true] using this
 refine ⟨fun e he=>⟨by simpa using (h1' e he).1.1,fun e' MU=>?_⟩,fun e he o ho=>?_,fun i o hi ho g b hg og t hog ht e he=>?_,fun i o hi ho e he=>?_⟩
 ·have:=List.all_eq_true.1 (h1' e he).1.2 (e'.i,e'.s) (List.mem_map.2 ⟨e',MU,rfl⟩)
  rw[beq_iff_eq,Bool.eq_iff_iff]at this;simpa using this
 ·have:=(h1' e he).2
  rw[ho]at this;simpa using this
 ·have:=(h2' i o hi ho).1
  rw[hg]at this;simp only[hog,Option.bind_some,ht]at this;have:=List.all_eq_true.1 this (e.i,e.s) (List.mem_map.2 ⟨e,he,rfl⟩)
  simpa using this
 ·have:=List.all_eq_true.1 (h2' i o hi ho).2 (e.i,e.s) (List.mem_map.2 ⟨e,he,rfl⟩)
  simp only[Bool.and_eq_true,Bool.or_eq_true,beq_iff_eq,bne_iff_ne,Bool.not_eq_true',List.contains_eq_mem,decide_eq_false_iff_not,decide_eq_true_eq]at this;exact this
theorem Du(listed:Array Bool)(g:Nat->Value)(t:Tmp):∀(es:List Hy) (a:Act),(∀e∈es,t≠e.s)->(fill listed g es a).tmps[t]?=a.tmps[t]?
 |[],_,_=>rfl
 |e::es,a,h=>by
  have ih:=Du listed g t es a (fun e' he=>h e' (by simp[he]));have Az:=h e Ar;simp only[fill];split
  ·rw[<-ih];simp[Act.put,Array.getElem?_setIfInBounds,Az.symm]
  ·exact ih
theorem En(g:Nat->Value)(t:Tmp):∀(es:List Hy) (a:Act),(∀e∈es,t≠e.s)->(Ay g es a).tmps[t]?=a.tmps[t]?
 |[],_,_=>rfl
 |e::es,a,h=>by
  have ih:=En g t es a (fun e' he=>h e' (by simp[he]));have Az:=h e Ar;simp only[Ay];rw[<-ih];simp[Act.put,Array.getElem?_setIfInBounds,Az.symm]
theorem Sz(listed:Array Bool)(g:Nat->Value):∀(es:List Hy) (a:Act),(fill listed g es a).tmps.size=a.tmps.size
 |[],_=>rfl
 |e::es,a=>by
  have ih:=Sz listed g es a;simp only[fill];split
  ·rw[<-ih];simp[Act.put]
  ·exact ih
theorem M5(g:Nat->Value):∀(es:List Hy) (a:Act),(Ay g es a).tmps.size=a.tmps.size
 |[],_=>rfl
 |e::es,a=>by
  have ih:=M5 g es a;simp only[Ay];rw[<-ih];simp[Act.put]
theorem JC(listed:Array Bool)(g:Nat->Value)(e:Hy)(hl:listed.getD e.i false=true):∀(es:List Hy) (a:Act),(∀x∈es,∀y∈es,(x.i=y.i↔x.s=y.s))->e∈es->(fill listed g es a).tmps[e.s]?=if e.s<a.tmps.size then some (g e.i) else none
 |[],_,_,h=>by cases h
 |x::es,a,hd,hm=>by
  simp only[fill];by_cases hx:x.s=e.s
  ·have hi:x.i=e.i:=(hd x Ar e hm).2 hx;rw[hi,if_pos hl,hx];simp only[Act.put,Array.getElem?_setIfInBounds_self,Sz]
  ·have VR:e∈es:=by
    rcases List.mem_cons.1 hm with rfl|h
    ·exact absurd rfl hx
    ·exact h
   have ih:=JC listed g e hl es a (fun y hy z hz=>hd y (by simp[hy]) z (by simp[hz])) VR;split
   ·rw[<-ih];simp[Act.put,Array.getElem?_setIfInBounds,hx]
   ·exact ih
theorem Fh(g:Nat->Value)(e:Hy):∀(es:List Hy) (a:Act),(∀x∈es,∀y∈es,(x.i=y.i↔x.s=y.s))->e∈es->(Ay g es a).tmps[e.s]?=if e.s<a.tmps.size then some (g e.i) else none
 |[],_,_,h=>by cases h
 |x::es,a,hd,hm=>by
  simp only[Ay];by_cases hx:x.s=e.s
  ·have hi:x.i=e.i:=(hd x Ar e hm).2 hx;rw[hi,hx];simp only[Act.put,Array.getElem?_setIfInBounds_self,M5]
  ·have VR:e∈es:=by
    rcases List.mem_cons.1 hm with rfl|h
    ·exact absurd rfl hx
    ·exact h
   have ih:=Fh g e es a (fun y hy z hz=>hd y (by simp[hy]) z (by simp[hz])) VR;rw[<-ih];simp[Act.put,Array.getElem?_setIfInBounds,hx]
def BF(P:Program)(F:Act)(o:Oper)(w:World)(R:Value->World->Prop):Prop:=
 match (execOp F.eval o).run P w with
 |.ok (.value u) w'=>R u w'
 |.ok .skip w'=>R undef w'
 |.ok (.enter f args) w'=>w'=w/\Calls P f args w fun e Bg=>∃u,e=.returned u/\R u Bg
 |_=>False
def eT(g:Nat->Value)(i:Nat)(u:Value):Nat->Value:=fun j=>if j=i then u else g j
theorem ck{Q:Exit->Act->World->Prop}{F:Act}{C:World->Prop}{St:Nat->(Nat->Value)->World->Prop}(hm:Z8 l n AK)(hf:QD l n (AK.map (·.1)) al)(N_:al.Pairwise fun x y=>x.i≠y.i)
 (hact:∀(j:Nat) (h:j<AK.length),∀o,l[AK[j].1]?=some o->Region.wanted o (yielded l.toArray F.tmps)=true/\∀g w,C w->St j g w->BF P (Ay g al F) o w fun u w'=>C w'/\((∃e∈al,e.i=AK[j].1)\/u=AK[j].2)/\St (j+1) (eT g AK[j].1 u) w')
 (htail:∀g w,C w->St AK.length g w->wpList P l.toArray Q (l.drop n) (Ay g al F) w):
 ∀(f:Nat) (listed:Array Bool) (aA:Act) (w:World) (k:Nat) (g:Nat->Value),EV listed n=f->HeadInv .any l.toArray n listed->C w->St k g w->k<=AK.length->(∀(j:Nat) (h:j<AK.length),listed.getD AK[j].1 false=decide (j<k))->
  (∀U,C U->wpAnyQ P .any (actFrom n AK 0 l).toArray (fun w'=>w'=U) (· =F) (f+(l.length-n)) listed aA)->wpAny P .any l.toArray Q (f+(l.length-n)) listed (fill listed g al aA) w:=by
 intro f
 induction f with
 |zero=>
  intro listed aA w k g iU inv hC hS hk X2 hA;have Ca:=FJ n iU;have hl:listed=Array.replicate n true++Array.replicate (l.length-n) false:=by
   apply Array.ext
   ·have:=inv.size;simp at this ⊢;have:=hm.NK;omega
   ·intro i h1 h2;rcases lt_or_ge i n with h|h
    ·have:=Ca i h
     simp[Array.getElem_append,h]at this ⊢;simpa[h1] using this
    ·have hs:=inv.size;have:=inv.tail i h (by simp at hs ⊢;omega)
     simp[Array.getElem_append,show ¬i<n by omega]at this ⊢;simpa[h1] using this
  obtain ⟨d1,d2,d3⟩:=Ax _ _ _ (hA w hC);have hF:aA=F:=by
   have ht:aA.tmps=F.tmps:=by
    apply Array.ext_getElem?
    intro s;refine d3 s (fun j o hj G3=>?_);rw[getElem?_toArray,BB]at hj
    cases hlj:l[j]? with
    |none=>rw[hlj]at hj;cases hj
    |some o'=>
     rw[hlj]at hj;simp only[map_some,Option.some.injEq]at hj;subst hj;rcases lt_or_ge j n with h|h
     ·have h1:=Ca j h;rcases lt_or_ge j listed.size with h'|h'
      ·simp[h']at h1 G3;rw[h1]at G3;cases G3
      ·simp[Array.getElem?_eq_none h']at h1
     ·rw[zero_add,CH n AK j o' h];simp
   cases aA;cases F;simp_all
  subst hF;have hkE:k=AK.length:=by
   rcases lt_or_ge k AK.length with h|h
   ·have h1:=X2 k h;rw[Ca _ (hm.made _ (getElem_mem h)).1]at h1;simp at h1
   ·omega
  subst hkE;have Lc:∀e∈al,e.i<n:=fun e he=>by
   obtain ⟨x,hx,GI⟩:=List.mem_map.1 (hf.own e he).1;rw[<-GI];exact (hm.made x hx).1
  rw[Hb _ _ _ _ (fun e he=>Ca e.i (Lc e he))];have PH:=htail g w hC hS;have Ko:=hm.seq;rw[<-hl]at Ko;have Hx:(l.drop n).length=l.length-n:=Ar;rw[zero_add];have:=wpAny_of_seq (P:=P) (Q':=Q) (ops:=l.toArray) (md:=.any) (l.drop n) n listed (Ay g al aA) w (fun j=>by simp) (by rw[Hx];exact Ko) PH
  rwa [Hx]at this
 |succ f ih=>
  intro listed aA w kk g iU inv hC hS hk X2 hA;obtain ⟨k,hZ,Pt,KO⟩:=Fz (listed:=listed) n AD;have Oo:listed.size=l.length:=by have:=inv.size;simpa using this
  have fk:=hm.NK;have GN:listed.getD k true=false:=getD_in AD Pt;have UV:k∈Region.ready .any l.toArray listed:=by
   refine mem_ready.2 ⟨GN,l[k]'AD,Ar,fun e he hb=>?_⟩;have:=hm.back k _ (getElem?_eq_getElem AD) e he hb
   exact KO _ this
  rw[show f+1+(l.length-n)=f+(l.length-n)+1 by omega];refine ⟨fun h0=>(by rw[h0]at UV;cases UV),fun i hi=>?_⟩;have hin:=Lm hm inv hZ GN i hi;obtain ⟨G3,o,ho,FC⟩:=mem_ready.1 hi;have DK:l[i]?=some o:=by simpa using ho
  have Jo:listed.getD i false=false:=getD_both G3;have iz:(actFrom n AK 0 l).toArray[i]?=some (actOp n AK i o):=by
   rw[getElem?_toArray,BB,DK,zero_add];rfl
  have Jz:=inv.set hi hin;have fU:EV (listed.setIfInBounds i true) n=f:=by
   have:=Hg (k:=n) AD Jo
   rw[if_pos hin]at this;omega
  have T9:∀U,C U->∃v,YieldsIn P (actFrom n AK 0 l).toArray (fun w'=>w'=U) (actOp n AK i o) v aA/\
   wpAnyQ P .any (actFrom n AK 0 l).toArray (fun w'=>w'=U) (· =F) (f+(l.length-n)) (listed.setIfInBounds i true) (aA.put o.dst v):=by
   intro U hU;have h1:=hA U hU;rw[show f+1+(l.length-n)=f+(l.length-n)+1 by omega]at h1;have h2:=h1.2 i (by rw[Iv];exact hi);obtain ⟨v,hy,hK⟩:=yieldsIn_of_qOp iz h2;rw[Br n AK i o hin]at hK;exact ⟨v,hy,hK⟩
  have same:∀U1 U2 v1 v2,wpAnyQ P .any (actFrom n AK 0 l).toArray (fun w'=>w'=U1) (· =F) (f+(l.length-n)) (listed.setIfInBounds i true) (aA.put o.dst v1)->
   wpAnyQ P .any (actFrom n AK 0 l).toArray (fun w'=>w'=U2) (· =F) (f+(l.length-n)) (listed.setIfInBounds i true) (aA.put o.dst v2)->aA.put o.dst v1=aA.put o.dst v2:=by
   intro U1 U2 v1 v2 h1 h2
   cases hd:o.dst with
   |none=>rfl
   |some d=>
    rw[hd]at h1 h2;have GL:∀(j:Nat) (o':Oper),(actFrom n AK 0 l).toArray[j]?=some o'->(listed.setIfInBounds i true).getD j true=false->o'.dst≠some d:=by
     intro j o' hj Fb;rw[getElem?_toArray,BB,zero_add]at hj
     cases hlj:l[j]? with
     |none=>rw[hlj]at hj;cases hj
     |some oj=>
      rw[hlj]at hj;simp only[map_some,Option.some.injEq]at hj;subst hj;rcases lt_or_ge j n with h|h
      ·rw[Br n AK j oj h];have Fr:i≠j:=by
        rintro rfl;have:(listed.setIfInBounds i true).getD i true=true:=by
         simp[show i<listed.size by omega]
        rw[this]at Fb;cases Fb
       exact hm.RZ i j hin h Fr o oj DK hlj d hd
      ·rw[CH n AK j oj h];simp
    have e1:=(Ax _ _ _ h1).2.2 d GL;have e2:=(Ax _ _ _ h2).2.2 d GL;have e3:=e1.trans e2.symm;simp only[Act.put,Array.getElem?_setIfInBounds_self]at e3 ⊢
    congr 1
    apply Array.ext_getElem?
    intro s;by_cases hs:d=s
    ·subst hs;rw[Array.getElem?_setIfInBounds_self,Array.getElem?_setIfInBounds_self];exact e3
    ·simp[Array.getElem?_setIfInBounds,hs]
  have XJ:Region.wanted o (yielded (actFrom n AK 0 l).toArray aA.tmps)=Region.wanted o (yielded l.toArray aA.tmps):=by
   unfold Region.wanted
   cases J8:o.guard with
   |none=>rfl
   |some gb=>
    obtain ⟨gi,b⟩:=gb;have jJ:=hm.guard i o hin DK gi b J8;have:yielded (actFrom n AK 0 l).toArray aA.tmps gi=yielded l.toArray aA.tmps gi:=by
     unfold yielded;rw[getElem?_toArray,getElem?_toArray,BB,zero_add]
     cases l[gi]? with
     |none=>rfl
     |some og=>simp only[map_some,Option.bind_some,Br n AK gi og jJ]
    simp only[this]
  obtain ⟨v0,XM,jV⟩:=T9 w hC;have cont:∀k2 g2 w2,C w2->St k2 g2 w2->k2<=AK.length->(∀(j:Nat) (h:j<AK.length),(listed.setIfInBounds i true).getD AK[j].1 false=decide (j<k2))->
   wpAny P .any l.toArray Q (f+(l.length-n)) (listed.setIfInBounds i true) (fill (listed.setIfInBounds i true) g2 al (aA.put o.dst v0)) w2:=by
   intro k2 g2 w2 fZ D9 Gh UE;refine ih _ _ _ k2 g2 fU Jz fZ D9 Gh UE ?_;intro U hU;obtain ⟨v1,_,hK⟩:=T9 U hU;have:=same _ _ _ _ jV hK
   rw[this];exact hK
  cases LX:AK.lookup i with
  |some v=>
   obtain ⟨j,hj,aR⟩:=F5 LX;have Lw:AK[j].1=i:=by rw[aR]
   have pO:AK[j].2=v:=by rw[aR]
   have hjk:j=kk:=by
    have h1:=X2 j hj;rw[Lw,Jo]at h1;have h2:¬j<kk:=by simpa using h1
    rcases Nat.eq_zero_or_pos j with h0|h0
    ·omega
    ·obtain ⟨j',rfl⟩:∃j',j=j'+1:=⟨j-1,AD⟩;obtain ⟨ed,NE,hb,Mr⟩:=hm.chain j' hj o (by rw[Lw];exact DK);have h3:=FC ed NE hb;rw[Mr,X2 j' AD]at h3;have:j'<kk:=by simpa using h3
     omega
   subst hjk;obtain ⟨mW,hstep⟩:=hact j hj o (by rw[Lw];exact DK);have hstep:=hstep g w hC hS;rw[pO,Lw]at hstep;have J7:=(hm.made _ (getElem_mem hj)).2 o (by rw[Lw];exact DK);obtain ⟨_,_,M4⟩:=Ax _ _ _ (hA w hC);have ID:∀t,t∈o.looksAt l.toArray->aA.tmps[t]?=F.tmps[t]?:=by
    intro t B6;refine M4 t (fun j' oj Gw Fb Mo=>?_);rw[getElem?_toArray,BB,zero_add]at Gw
    cases hlj:l[j']? with
    |none=>rw[hlj]at Gw;cases Gw
    |some oj'=>
     rw[hlj]at Gw;simp only[map_some,Option.some.injEq]at Gw;subst Gw;rcases lt_or_ge j' n with h|h
     ·rw[Br n AK j' oj' h]at Mo;obtain ⟨ed,NE,hb,Mr⟩:=J7 j' oj' h hlj t Mo B6;have h1:=FC ed NE hb;rw[Mr,getD_both Fb]at h1;cases h1
     ·rw[CH n AK j' oj' h]at Mo;cases Mo
   have H_:=Region.noSelect_spec hm.Yi;have M8:aA.tmps.size=F.tmps.size:=(Ax _ _ _ (hA w hC)).2.1;have Qa:execOp (fill listed g al aA).eval o=execOp (Ay g al F).eval o:=by
    refine execOp_congr o (fun cs b=>H_ i o cs b ho) fun x hx=>?_
    cases x with
    |tmp t=>
     have B6:t∈o.looksAt l.toArray:=List.mem_append_left _ (List.mem_filterMap.2 ⟨.tmp t,by simpa using hx,rfl⟩);have e1:(fill listed g al aA).tmps[t]?=(Ay g al F).tmps[t]?:=by
      by_cases Ga:∃e∈al,e.s=t
      ·obtain ⟨e,he,rfl⟩:=Ga;have US:e.i<n:=by
        obtain ⟨x,hx,GI⟩:=List.mem_map.1 (hf.own e he).1;rw[<-GI];exact (hm.made x hx).1
       obtain ⟨oe,S0⟩:∃oe,l[e.i]?=some oe:=⟨l[e.i]'AD,getElem?_eq_getElem AD⟩;obtain ⟨ed,NE,hb,Mr⟩:=J7 e.i oe US S0 e.s (hf.dst e he oe S0) B6;have Nr:=FC ed NE hb;rw[Mr]at Nr;have IY:listed.getD e.i false=true:=by
        rcases lt_or_ge e.i listed.size with h'|h'
        ·simp[h']at Nr ⊢;exact Nr
        ·omega
       rw[JC listed g e IY al aA (fun x hx y hy=>(hf.own x hx).2 y hy) he,Fh g e al F (fun x hx y hy=>(hf.own x hx).2 y hy) he,M8]
      ·have GL:∀e∈al,t≠e.s:=fun e he h=>Ga ⟨e,he,h.symm⟩
       rw[Du listed g t al aA GL,En g t al F GL,ID t B6]
     simp only[Act.eval,Array.getD_eq_getD_getElem?,e1]
    |_=>rfl
   have MK:Region.wanted o (yielded l.toArray (fill listed g al aA).tmps)=Region.wanted o (yielded l.toArray aA.tmps):=by
    unfold Region.wanted
    cases J8:o.guard with
    |none=>rfl
    |some gb=>
     obtain ⟨gi,b⟩:=gb;have:yielded l.toArray (fill listed g al aA).tmps gi=yielded l.toArray aA.tmps gi:=by
      unfold yielded
      cases hgi:l.toArray[gi]? with
      |none=>rfl
      |some og=>
       cases hdg:og.dst with
       |none=>simp[hdg]
       |some t=>
        have GL:=hf.guard i o hin DK gi b J8 og t (by simpa using hgi) hdg;simp[hdg,Du listed g t al aA GL]
     simp only[this]
   have aK:Region.wanted o (yielded l.toArray aA.tmps)=true:=by
    rw[<-mW];unfold Region.wanted
    cases J8:o.guard with
    |none=>rfl
    |some gb=>
     obtain ⟨gi,b⟩:=gb;have:yielded l.toArray aA.tmps gi=yielded l.toArray F.tmps gi:=by
      unfold yielded
      cases hgi:l.toArray[gi]? with
      |none=>rfl
      |some og=>
       cases hdg:og.dst with
       |none=>simp[hdg]
       |some t=>
        have B6:t∈o.looksAt l.toArray:=by
         unfold Oper.looksAt;refine List.mem_append_right _ ?_;rw[J8];simp[hgi,hdg]
        simp[hdg,ID t B6]
     simp only[this]
   have TV:v0=v:=by
    rcases XM with ⟨_,hv⟩|⟨XH,_⟩
    ·have:=hv w rfl
     rw[Ip n AK i o v hin LX]at this;unfold Oper.quietAt at this;simp only[execOp,Sem.run_pure,Oper.quietUpon]at this;exact this.2.symm
    ·exfalso;have:Region.wanted (actOp n AK i o) (yielded (actFrom n AK 0 l).toArray aA.tmps)=Region.wanted o (yielded (actFrom n AK 0 l).toArray aA.tmps):=by
      unfold Region.wanted;rw[GU]
     rw[this,XJ,aK]at XH;cases XH
   subst TV;have UE:∀(j2:Nat) (h:j2<AK.length),(listed.setIfInBounds i true).getD AK[j2].1 false=decide (j2<j+1):=by
    intro j2 h2;by_cases e:j2=j
    ·subst e;rw[Lw];have:(listed.setIfInBounds i true).getD i false=true:=by simp[show i<listed.size by omega]
     rw[this];simp
    ·have Az:i≠AK[j2].1:=fun h=>e (hm.nodup j2 j h2 hj (by rw[Lw];exact h.symm))
     rw[getD_set_ne false Az,X2 j2 h2,decide_eq_decide];omega
   have next:∀u w',C w'/\((∃e∈al,e.i=i)\/u=v0)/\St (j+1) (eT g i u) w'->
    wpAny P .any l.toArray Q (f+(l.length-n)) (listed.setIfInBounds i true) ((fill listed g al aA).put o.dst u) w':=by
    rintro u w' ⟨h1,h2,h3⟩;have:=cont (j+1) (eT g i u) w' h1 h3 AD UE
    by_cases Ga:∃e∈al,e.i=i
    ·obtain ⟨e,he,rfl⟩:=Ga;rw[hf.dst e he o DK]at this ⊢;rw[<-I3 listed g e u v0 Jo AD al aA (fun x hx y hy=>(hf.own x hx).2 y hy) he (fun x hx=>(hf.own x hx).2 e he) N_];exact this
    ·have h2:u=v0:=h2.resolve_left Ga;subst h2;have GL:∀e∈al,o.dst≠some e.s:=fun e he=>((hf.blind i o hin DK e he).2).resolve_left (fun h=>Ga ⟨e,he,h⟩)
     rw[<-Ep listed g o.dst u al aA GL];rw[DP listed (listed.setIfInBounds i true) g (eT g i u) al _ (fun e he=>by
      have Az:i≠e.i:=fun h=>Ga ⟨e,he,h.symm⟩
      exact ⟨(getD_set_ne false Az).symm,by unfold eT;rw[if_neg (fun h=>Az h.symm)]⟩)]
     exact this
   unfold wpOp;simp only[ho];rw[if_pos (by rw[MK];exact aK)];refine .inl ?_;unfold Oper.wp;rw[Qa];unfold BF at hstep;generalize (execOp (Ay g al F).eval o).run P w=r at hstep
   cases r with
   |halt x w'=>exact hstep.elim
   |ok nx w'=>
    cases nx <;> simp only at hstep <;> simp only[Oper.upon]
    case value u=>exact next u w' hstep
    case enter fn args=>
     obtain ⟨rfl,hc⟩:=hstep;exact hc.mono fun en Bg ⟨u,he,h⟩=>by subst he;exact next u Bg h
    all_goals first|exact hstep.elim|exact next _ w' hstep
  |none=>
   have Lj:=XM;rw[GS n AK i o hin LX]at Lj;have qj:∀j (hj:j<AK.length),i≠AK[j].1:=by
    intro j hj h;have:AK.lookup i≠none:=by
     rw[h];intro hn;rw[List.lookup_eq_none_iff]at hn;have:=hn _ (getElem_mem hj)
     simp at this
    exact this LX
   have iw:i∉AK.map (·.1):=by
    intro h;obtain ⟨x,hx,GI⟩:=List.mem_map.1 h;obtain ⟨j,hj,rfl⟩:=List.getElem_of_mem hx;exact qj j hj GI.symm
   have Lp:∀e∈al,e.s∉o.looksAt l.toArray:=fun e he=>((hf.blind i o hin DK e he).1).resolve_left iw
   have O3:∀e∈al,e.i≠i/\o.dst≠some e.s:=fun e he=>by
    have Az:e.i≠i:=fun h=>iw (h ▸ (hf.own e he).1)
    exact ⟨Az,((hf.blind i o hin DK e he).2).resolve_left Az⟩
   have H_:=Region.noSelect_spec hm.Yi;have hex:=FD (l:=l) listed g o (fun cs b=>H_ i o cs b ho) al aA Lp;have pI:=EJ (l:=l) listed g o al aA Lp;have iF:YieldsIn P l.toArray (fun w'=>w'=w) o v0 (fill listed g al aA):=by
    unfold YieldsIn Oper.quietAt at Lj ⊢;rw[hex,pI,<-XJ];exact Lj
   refine wpOp_of_qOp (C:=fun w'=>w'=w) rfl (K:=fun a'=>a'=(fill listed g al aA).put o.dst v0) ?_ (iF.qOp ho rfl);rintro a' w' rfl rfl;rw[<-Ep listed g o.dst v0 al aA (fun e he=>(O3 e he).2)];rw[DP listed (listed.setIfInBounds i true) g g al _ (fun e he=>⟨(getD_set_ne false (fun h=>(O3 e he).1 h.symm)).symm,rfl⟩)];refine cont kk g _ hC hS hk (fun j hj=>?_);rw[getD_set_ne false (qj j hj),X2 j hj]
theorem CS{id:Nat}{Q:Exit->Act->World->Prop}{a F:Act}{w:World}(n:Nat)(AK:List (Nat × Value))(al:List Hy)(C:World->Prop)(St:Nat->(Nat->Value)->World->Prop)(hm:P.follows .mixedOrders=true)(hB:m7 l n (AK.map (·.1))=true)(iG:OG l n (AK.map (·.1)) (al.map fun e=>(e.i,e.s))=true)(N_:al.Pairwise fun x y=>x.i≠y.i)(Dc:Region.lexB .any (actFrom n AK 0 l).toArray=true)
 (hC:C w.drew) (hS:∀g,St 0 g w.drew)
 (hlex:∀U,C U->wpQuiet P (actFrom n AK 0 l).toArray (fun w'=>w'=U) (· =F) (actFrom n AK 0 l) a)
 (hact:∀(j:Nat) (h:j<AK.length),∀o,l[AK[j].1]?=some o->Region.wanted o (yielded l.toArray F.tmps)=true/\∀g w,C w->St j g w->BF P (Ay g al F) o w fun u w'=>C w'/\((∃e∈al,e.i=AK[j].1)\/u=AK[j].2)/\St (j+1) (eT g AK[j].1 u) w')
 (htail:∀g w,C w->St AK.length g w->wpList P l.toArray Q (l.drop n) (Ay g al F) w):
 (Code.region id l.toArray true).wp P Q a w:=by
 have hk:=pc hB;simp only[Region.lexB,Bool.and_eq_true]at Dc;have QB:HeadInv .any l.toArray n (Array.replicate l.toArray.size false):=⟨Ar,fun j oj _ h=>(by rw[getD_replicate_false]at h;cases h),fun t _ ht=>(by
  have lX:t<l.length:=by simpa using ht
  simp[lX])⟩
 have KJ:∀k,k<=l.length->EV (Array.replicate l.toArray.size false) k=k:=by
  intro k
  induction k with
  |zero=>intro _;rfl
  |succ k ih=>intro hk;simp only[EV,getD_replicate_false,ih AD];simp
 have Hx:n+(l.length-n)=l.length:=by have:=hk.NK;omega
 refine wp_region_any hm ?_;have hr:({w with drawn:=w.drawn+1}:World)=w.drew:=rfl;rw[hr];have M6:fill (Array.replicate l.toArray.size false) (fun _=>undef) al a=a:=by
  have:∀es:List Hy,fill (Array.replicate l.toArray.size false) (fun _=>undef) es a=a:=by
   intro es
   induction es with
   |nil=>rfl
   |cons e es ih=>simp only[fill,getD_replicate_false,ih];simp
  exact this al
 have:=ck (P:=P) (Q:=Q) (F:=F) (C:=C) (St:=St) hk (TN iG) N_ hact htail n (Array.replicate l.toArray.size false) a w.drew 0 (fun _=>undef) (KJ n hk.NK) QB hC (hS _) (Nat.zero_le _) (fun j hj=>by rw[getD_replicate_false];simp) (fun U hU=>by
  have hl:=wpAnyQ_lex (P:=P) (C:=fun w'=>w'=U) (Q:=(· =F)) (md:=.any) Dc.1 (actFrom n AK 0 l) 0 (Array.replicate (actFrom n AK 0 l).toArray.size false) a Ar (by simpa using Dc.2) (hlex U hU);rw[Hx];simpa[Cy] using hl)
 rw[Hx,M6]at this;simpa using this
theorem Xq{F:Act}{o:Oper}{w:World}{f:FuncId}{args:Array Value}{R:Value->World->Prop}(hr:(execOp F.eval o).run P w=.ok (.enter f args) w)(h:Calls P f args w fun e Bg=>∃u,e=.returned u/\R u Bg):BF P F o w R:=by
 unfold BF;rw[hr];exact ⟨rfl,h⟩
theorem AO{F:Act}{o:Oper}{w:World}{f:FuncId}{args:Array Value}{R:Value->World->Prop}(hr:(execOp F.eval o).run P w=.ok (.enter f args) w)(h:Calls P f args w fun e Bg=>∃u,e=.returned u/\R u Bg):BF P F o w R:=Xq hr h
theorem Cb{F:Act}{o:Oper}{u:Value}{w w':World}{R:Value->World->Prop}(hr:(execOp F.eval o).run P w=.ok (.value u) w')(h:R u w'):BF P F o w R:=by
 unfold BF;rw[hr];exact h
structure CA where
 i:Nat
 s:Tmp
 v:Value
 free:Bool
 is:Value->World->Prop
def CA.act(c:CA):Nat × Value:=(c.i,c.v)
def CA.own(c:CA):Hy:=⟨c.i,c.s,c.is⟩
end
end
section
def rowB(l:List Oper)(n:Nat)(is:List Nat):Bool:=
 Region.noSelect l.toArray && decide (n<=l.length) &&
 ((range l.length).all fun i=>match l[i]? with|some o=>o.after.all fun e=> !Region.binds .any e || decide (e.on<i)|none=>true) &&
 ((range n).all fun i=>match l[i]? with|some o=>(match o.guard with|some (g,_)=>decide (g<n)|none=>true)|none=>true) &&
 (is.all fun i=>decide (i<n) &&
  match l[i]? with
  |some o=>(range n).all fun j=>match (l[j]?).bind (·.dst) with
   |some t=> !(o.looksAt l.toArray).contains t || o.after.any fun ed=>Region.binds .any ed && ed.on == j
   |none=>true
  |none=>false) &&
 ((range is.length).all fun j=>(range is.length).all fun k=>j == k || is.getD j 0 != is.getD k 0) &&
 ((range n).all fun i=>(range n).all fun j=>i == j || match (l[i]?).bind (·.dst),(l[j]?).bind (·.dst) with|some d,some d'=>d != d'|_,_=>true) &&
 (n == l.length || (Region.sinkB .any l.toArray n && Region.chainB .any l.toArray n)) &&
 Region.seqB .any l.toArray (l.length-n) n (Array.replicate n true++Array.replicate (l.length-n) false)
section
variable {P:Program}{l:List Oper}{n:Nat}{AK:List (Nat × Value)}{al:List Hy}
structure RowOk(l:List Oper)(n:Nat)(AK:List (Nat × Value)):Prop where
 Yi:Region.noSelect l.toArray=true
 NK:n<=l.length
 back:∀(i:Nat) (o:Oper),l[i]?=some o->∀e∈o.after,Region.binds .any e=true->e.on<i
 guard:∀(i:Nat) (o:Oper),i<n->l[i]?=some o->∀g b,o.guard=some (g,b)->g<n
 made:∀e∈AK,e.1<n/\∀o,l[e.1]?=some o->∀(j:Nat) (o':Oper),j<n->l[j]?=some o'->∀t,o'.dst=some t->t∈o.looksAt l.toArray->∃ed∈o.after,Region.binds .any ed=true/\ed.on=j
 nodup:∀(j k:Nat) (hj:j<AK.length) (hk:k<AK.length),AK[j].1=AK[k].1->j=k
 RZ:∀i j:Nat,i<n->j<n->i≠j->∀o o':Oper,l[i]?=some o->l[j]?=some o'->∀d,o.dst=some d->o'.dst≠some d
 tail:n=l.length\/(Region.sinkB .any l.toArray n=true/\Region.chainB .any l.toArray n=true)
 seq:Region.seqB .any l.toArray (l.length-n) n (Array.replicate n true++Array.replicate (l.length-n) false)=true
theorem getD_row{k:Nat}(h:k<AK.length):(AK.map (·.1)).getD k 0=AK[k].1:=by simp[h]
theorem rowOk(h:rowB l n (AK.map (·.1))=true):RowOk l n AK:=by
 unfold rowB at h;simp only[Bool.and_eq_true]at h;obtain ⟨⟨⟨⟨⟨⟨⟨⟨h1,h2⟩,h3⟩,h4⟩,h5⟩,h7⟩,h8⟩,h9⟩,YM⟩:=h;refine ⟨h1,by simpa using h2,?_,?_,?_,?_,?_,?_,YM⟩
 ·intro i o ho e he hb;have hi:i<l.length:=(List.getElem?_eq_some_iff.1 ho).1;have:=List.all_eq_true.1 h3 i (List.mem_range.2 hi)
  rw[ho]at this;have:=Array.all_eq_true'.1 this e he
  simpa[hb] using this
 ·intro i o hi ho g b hg;have:=List.all_eq_true.1 h4 i (List.mem_range.2 hi)
  rw[ho]at this;simp only[hg]at this;simpa using this
 ·intro e he;have:=List.all_eq_true.1 h5 e.1 (List.mem_map.2 ⟨e,he,rfl⟩)
  rw[Bool.and_eq_true]at this;refine ⟨by simpa using this.1,fun o ho j o' hj DK t ht BN=>?_⟩;have g3:=this.2;rw[ho]at g3;have:=List.all_eq_true.1 g3 j (List.mem_range.2 hj)
  rw[DK,Option.bind_some,ht]at this;simp only[Bool.or_eq_true,Bool.not_eq_true',List.contains_eq_mem,decide_eq_false_iff_not,Array.any_eq_true',Bool.and_eq_true,beq_iff_eq]at this;rcases this with h|⟨ed,h,hb⟩
  ·exact absurd BN h
  ·exact ⟨ed,h,hb⟩
 ·intro j k hj hk he;have:=List.all_eq_true.1 (List.all_eq_true.1 h7 j (List.mem_range.2 (by rw[length_map];exact hj))) k (List.mem_range.2 (by rw[length_map];exact hk))
  rw[getD_row hj,getD_row hk,he]at this;simpa using this
 ·intro i j hi hj Fr o o' ho DK d hd mL;have:=List.all_eq_true.1 (List.all_eq_true.1 h8 i (List.mem_range.2 hi)) j (List.mem_range.2 hj)
  rw[ho,DK]at this;simp[Fr,hd,mL]at this
 ·rcases Bool.or_eq_true_iff.1 h9 with h|h
  ·exact .inl (by simpa using h)
  ·exact .inr (by simpa only[Bool.and_eq_true] using h)
theorem head_only_row(hm:RowOk l n AK){listed:Array Bool}(inv:HeadInv .any l.toArray n listed){i:Nat}(hi:i<n)(G3:listed.getD i true=false):∀t∈Region.ready .any l.toArray listed,t<n:=by
 intro t ht;rcases lt_or_ge t n with h|h
 ·exact h
 ·obtain ⟨_,o,ho,_⟩:=mem_ready.1 ht;have yS:t<l.length:=by have:=(Array.getElem?_eq_some_iff.1 ho).1;simpa using this
  rcases hm.tail with he|⟨hs,hc⟩
  ·omega
  ·exact absurd ht (tail_waits hs hc (by simp;omega) inv _ i rfl hi G3 t h)
theorem free_run{Q:Exit->Act->World->Prop}{F:Act}{W:World}(hm:RowOk l n AK)(hf:QD l n (AK.map (·.1)) al)(N_:al.Pairwise fun x y=>x.i≠y.i)
 (hstab:∀e∈al,∀v w w',AA w w'->e.is v w->e.is v w')
 (hact:∀(j:Nat) (h:j<AK.length),∀o,l[AK[j].1]?=some o->Region.wanted o (yielded l.toArray F.tmps)=true/\∀g w,AA W w->(∀e∈al,e.s∈o.looksAt l.toArray->e.is (g e.i) w)->BF P (Ay g al F) o w fun u w'=>AA w w'/\(∀e∈al,e.i=AK[j].1->e.is u w'/\∀b,vblk u=some b->w.heap.size<=b/\b<w'.heap.size)/\((∃e∈al,e.i=AK[j].1)\/u=AK[j].2))
 (htail:∀g w,AA W w->(∀e∈al,e.is (g e.i) w/\∀b,vblk (g e.i)=some b->W.heap.size<=b/\b<w.heap.size)->(∀e∈al,∀e'∈al,e.i≠e'.i->∀b,vblk (g e.i)=some b->vblk (g e'.i)≠some b)->wpList P l.toArray Q (l.drop n) (Ay g al F) w):
 ∀(f:Nat) (listed:Array Bool) (aA:Act) (w:World) (g:Nat->Value),EV listed n=f->HeadInv .any l.toArray n listed->AA W w->Stand listed g al W w->
  (∀U,AA W U->wpAnyQ P .any (actFrom n AK 0 l).toArray (fun w'=>w'=U) (· =F) (f+(l.length-n)) listed aA)->wpAny P .any l.toArray Q (f+(l.length-n)) listed (fill listed g al aA) w:=by
 intro f
 induction f with
 |zero=>
  intro listed aA w g iU inv hC hS hA;have Ca:=FJ n iU;have hl:listed=Array.replicate n true++Array.replicate (l.length-n) false:=by
   apply Array.ext
   ·have:=inv.size;simp at this ⊢;have:=hm.NK;omega
   ·intro i h1 h2;rcases lt_or_ge i n with h|h
    ·have:=Ca i h
     simp[Array.getElem_append,h]at this ⊢;simpa[h1] using this
    ·have hs:=inv.size;have:=inv.tail i h (by simp at hs ⊢;omega)
     simp[Array.getElem_append,show ¬i<n by omega]at this ⊢;simpa[h1] using this
  obtain ⟨d1,d2,d3⟩:=Ax _ _ _ (hA w hC);have hF:aA=F:=by
   have ht:aA.tmps=F.tmps:=by
    apply Array.ext_getElem?
    intro s;refine d3 s (fun j o hj G3=>?_);rw[getElem?_toArray,BB]at hj
    cases hlj:l[j]? with
    |none=>rw[hlj]at hj;cases hj
    |some o'=>
     rw[hlj]at hj;simp only[map_some,Option.some.injEq]at hj;subst hj;rcases lt_or_ge j n with h|h
     ·have h1:=Ca j h;rcases lt_or_ge j listed.size with h'|h'
      ·simp[h']at h1 G3;rw[h1]at G3;cases G3
      ·simp[Array.getElem?_eq_none h']at h1
     ·rw[zero_add,CH n AK j o' h];simp
   cases aA;cases F;simp_all
  subst hF;have Lc:∀e∈al,e.i<n:=fun e he=>by
   obtain ⟨x,hx,GI⟩:=List.mem_map.1 (hf.own e he).1;rw[<-GI];exact (hm.made x hx).1
  rw[Hb _ _ _ _ (fun e he=>Ca e.i (Lc e he))];have PH:=htail g w hC (fun e he=>hS.1 e he (Ca e.i (Lc e he))) (fun e he e' MU=>hS.2 e he e' MU (Ca e.i (Lc e he)) (Ca e'.i (Lc e' MU)));have Ko:=hm.seq;rw[<-hl]at Ko;have Hx:(l.drop n).length=l.length-n:=Ar;rw[zero_add];have:=wpAny_of_seq (P:=P) (Q':=Q) (ops:=l.toArray) (md:=.any) (l.drop n) n listed (Ay g al aA) w (fun j=>by simp) (by rw[Hx];exact Ko) PH
  rwa [Hx]at this
 |succ f ih=>
  intro listed aA w g iU inv hC hS hA;obtain ⟨k,hZ,Pt,KO⟩:=Fz (listed:=listed) n AD;have Oo:listed.size=l.length:=by have:=inv.size;simpa using this
  have fk:=hm.NK;have GN:listed.getD k true=false:=getD_in AD Pt;have UV:k∈Region.ready .any l.toArray listed:=by
   refine mem_ready.2 ⟨GN,l[k]'AD,Ar,fun e he hb=>?_⟩;have:=hm.back k _ (getElem?_eq_getElem AD) e he hb
   exact KO _ this
  rw[show f+1+(l.length-n)=f+(l.length-n)+1 by omega];refine ⟨fun h0=>(by rw[h0]at UV;cases UV),fun i hi=>?_⟩;have hin:=head_only_row hm inv hZ GN i hi;obtain ⟨G3,o,ho,FC⟩:=mem_ready.1 hi;have DK:l[i]?=some o:=by simpa using ho
  have Jo:listed.getD i false=false:=getD_both G3;have iz:(actFrom n AK 0 l).toArray[i]?=some (actOp n AK i o):=by
   rw[getElem?_toArray,BB,DK,zero_add];rfl
  have Jz:=inv.set hi hin;have fU:EV (listed.setIfInBounds i true) n=f:=by
   have:=Hg (k:=n) AD Jo
   rw[if_pos hin]at this;omega
  have T9:∀U,AA W U->∃v,YieldsIn P (actFrom n AK 0 l).toArray (fun w'=>w'=U) (actOp n AK i o) v aA/\
   wpAnyQ P .any (actFrom n AK 0 l).toArray (fun w'=>w'=U) (· =F) (f+(l.length-n)) (listed.setIfInBounds i true) (aA.put o.dst v):=by
   intro U hU;have h1:=hA U hU;rw[show f+1+(l.length-n)=f+(l.length-n)+1 by omega]at h1;have h2:=h1.2 i (by rw[Iv];exact hi);obtain ⟨v,hy,hK⟩:=yieldsIn_of_qOp iz h2;rw[Br n AK i o hin]at hK;exact ⟨v,hy,hK⟩
  have same:∀U1 U2 v1 v2,wpAnyQ P .any (actFrom n AK 0 l).toArray (fun w'=>w'=U1) (· =F) (f+(l.length-n)) (listed.setIfInBounds i true) (aA.put o.dst v1)->
   wpAnyQ P .any (actFrom n AK 0 l).toArray (fun w'=>w'=U2) (· =F) (f+(l.length-n)) (listed.setIfInBounds i true) (aA.put o.dst v2)->aA.put o.dst v1=aA.put o.dst v2:=by
   intro U1 U2 v1 v2 h1 h2
   cases hd:o.dst with
   |none=>rfl
   |some d=>
    rw[hd]at h1 h2;have GL:∀(j:Nat) (o':Oper),(actFrom n AK 0 l).toArray[j]?=some o'->(listed.setIfInBounds i true).getD j true=false->o'.dst≠some d:=by
     intro j o' hj Fb;rw[getElem?_toArray,BB,zero_add]at hj
     cases hlj:l[j]? with
     |none=>rw[hlj]at hj;cases hj
     |some oj=>
      rw[hlj]at hj;simp only[map_some,Option.some.injEq]at hj;subst hj;rcases lt_or_ge j n with h|h
      ·rw[Br n AK j oj h];have Fr:i≠j:=by
        rintro rfl;have:(listed.setIfInBounds i true).getD i true=true:=by
         simp[show i<listed.size by omega]
        rw[this]at Fb;cases Fb
       exact hm.RZ i j hin h Fr o oj DK hlj d hd
      ·rw[CH n AK j oj h];simp
    have e1:=(Ax _ _ _ h1).2.2 d GL;have e2:=(Ax _ _ _ h2).2.2 d GL;have e3:=e1.trans e2.symm;simp only[Act.put,Array.getElem?_setIfInBounds_self]at e3 ⊢
    congr 1
    apply Array.ext_getElem?
    intro s;by_cases hs:d=s
    ·subst hs;rw[Array.getElem?_setIfInBounds_self,Array.getElem?_setIfInBounds_self];exact e3
    ·simp[Array.getElem?_setIfInBounds,hs]
  have XJ:Region.wanted o (yielded (actFrom n AK 0 l).toArray aA.tmps)=Region.wanted o (yielded l.toArray aA.tmps):=by
   unfold Region.wanted
   cases J8:o.guard with
   |none=>rfl
   |some gb=>
    obtain ⟨gi,b⟩:=gb;have jJ:=hm.guard i o hin DK gi b J8;have:yielded (actFrom n AK 0 l).toArray aA.tmps gi=yielded l.toArray aA.tmps gi:=by
     unfold yielded;rw[getElem?_toArray,getElem?_toArray,BB,zero_add]
     cases l[gi]? with
     |none=>rfl
     |some og=>simp only[map_some,Option.bind_some,Br n AK gi og jJ]
    simp only[this]
  obtain ⟨v0,XM,jV⟩:=T9 w hC;have cont:∀g2 w2,AA W w2->Stand (listed.setIfInBounds i true) g2 al W w2->
   wpAny P .any l.toArray Q (f+(l.length-n)) (listed.setIfInBounds i true) (fill (listed.setIfInBounds i true) g2 al (aA.put o.dst v0)) w2:=by
   intro g2 w2 fZ D9;refine ih _ _ _ g2 fU Jz fZ D9 ?_;intro U hU;obtain ⟨v1,_,hK⟩:=T9 U hU;have:=same _ _ _ _ jV hK
   rw[this];exact hK
  cases LX:AK.lookup i with
  |some v=>
   obtain ⟨j,hj,aR⟩:=F5 LX;have Lw:AK[j].1=i:=by rw[aR]
   have pO:AK[j].2=v:=by rw[aR]
   obtain ⟨mW,hstep⟩:=hact j hj o (by rw[Lw];exact DK);have J7:=(hm.made _ (getElem_mem hj)).2 o (by rw[Lw];exact DK);have VC:∀e∈al,e.s∈o.looksAt l.toArray->listed.getD e.i false=true:=by
    intro e he B6;have US:e.i<n:=by
     obtain ⟨x,hx,GI⟩:=List.mem_map.1 (hf.own e he).1;rw[<-GI];exact (hm.made x hx).1
    obtain ⟨oe,S0⟩:∃oe,l[e.i]?=some oe:=⟨l[e.i]'AD,getElem?_eq_getElem AD⟩;obtain ⟨ed,NE,hb,Mr⟩:=J7 e.i oe US S0 e.s (hf.dst e he oe S0) B6;have Nr:=FC ed NE hb;rw[Mr]at Nr;rcases lt_or_ge e.i listed.size with h'|h'
    ·simp[h']at Nr ⊢;exact Nr
    ·omega
   have hstep:=hstep g w hC (fun e he B6=>(hS.1 e he (VC e he B6)).1);rw[pO,Lw]at hstep;obtain ⟨_,_,M4⟩:=Ax _ _ _ (hA w hC);have ID:∀t,t∈o.looksAt l.toArray->aA.tmps[t]?=F.tmps[t]?:=by
    intro t B6;refine M4 t (fun j' oj Gw Fb Mo=>?_);rw[getElem?_toArray,BB,zero_add]at Gw
    cases hlj:l[j']? with
    |none=>rw[hlj]at Gw;cases Gw
    |some oj'=>
     rw[hlj]at Gw;simp only[map_some,Option.some.injEq]at Gw;subst Gw;rcases lt_or_ge j' n with h|h
     ·rw[Br n AK j' oj' h]at Mo;obtain ⟨ed,NE,hb,Mr⟩:=J7 j' oj' h hlj t Mo B6;have h1:=FC ed NE hb;rw[Mr,getD_both Fb]at h1;cases h1
     ·rw[CH n AK j' oj' h]at Mo;cases Mo
   have H_:=Region.noSelect_spec hm.Yi;have M8:aA.tmps.size=F.tmps.size:=(Ax _ _ _ (hA w hC)).2.1;have Qa:execOp (fill listed g al aA).eval o=execOp (Ay g al F).eval o:=by
    refine execOp_congr o (fun cs b=>H_ i o cs b ho) fun x hx=>?_
    cases x with
    |tmp t=>
     have B6:t∈o.looksAt l.toArray:=List.mem_append_left _ (List.mem_filterMap.2 ⟨.tmp t,by simpa using hx,rfl⟩);have e1:(fill listed g al aA).tmps[t]?=(Ay g al F).tmps[t]?:=by
      by_cases Ga:∃e∈al,e.s=t
      ·obtain ⟨e,he,rfl⟩:=Ga;have US:e.i<n:=by
        obtain ⟨x,hx,GI⟩:=List.mem_map.1 (hf.own e he).1;rw[<-GI];exact (hm.made x hx).1
       obtain ⟨oe,S0⟩:∃oe,l[e.i]?=some oe:=⟨l[e.i]'AD,getElem?_eq_getElem AD⟩;obtain ⟨ed,NE,hb,Mr⟩:=J7 e.i oe US S0 e.s (hf.dst e he oe S0) B6;have Nr:=FC ed NE hb;rw[Mr]at Nr;have IY:listed.getD e.i false=true:=by
        rcases lt_or_ge e.i listed.size with h'|h'
        ·simp[h']at Nr ⊢;exact Nr
        ·omega
       rw[JC listed g e IY al aA (fun x hx y hy=>(hf.own x hx).2 y hy) he,Fh g e al F (fun x hx y hy=>(hf.own x hx).2 y hy) he,M8]
      ·have GL:∀e∈al,t≠e.s:=fun e he h=>Ga ⟨e,he,h.symm⟩
       rw[Du listed g t al aA GL,En g t al F GL,ID t B6]
     simp only[Act.eval,Array.getD_eq_getD_getElem?,e1]
    |_=>rfl
   have MK:Region.wanted o (yielded l.toArray (fill listed g al aA).tmps)=Region.wanted o (yielded l.toArray aA.tmps):=by
    unfold Region.wanted
    cases J8:o.guard with
    |none=>rfl
    |some gb=>
     obtain ⟨gi,b⟩:=gb;have:yielded l.toArray (fill listed g al aA).tmps gi=yielded l.toArray aA.tmps gi:=by
      unfold yielded
      cases hgi:l.toArray[gi]? with
      |none=>rfl
      |some og=>
       cases hdg:og.dst with
       |none=>simp[hdg]
       |some t=>
        have GL:=hf.guard i o hin DK gi b J8 og t (by simpa using hgi) hdg;simp[hdg,Du listed g t al aA GL]
     simp only[this]
   have aK:Region.wanted o (yielded l.toArray aA.tmps)=true:=by
    rw[<-mW];unfold Region.wanted
    cases J8:o.guard with
    |none=>rfl
    |some gb=>
     obtain ⟨gi,b⟩:=gb;have:yielded l.toArray aA.tmps gi=yielded l.toArray F.tmps gi:=by
      unfold yielded
      cases hgi:l.toArray[gi]? with
      |none=>rfl
      |some og=>
       cases hdg:og.dst with
       |none=>simp[hdg]
       |some t=>
        have B6:t∈o.looksAt l.toArray:=by
         unfold Oper.looksAt;refine List.mem_append_right _ ?_;rw[J8];simp[hgi,hdg]
        simp[hdg,ID t B6]
     simp only[this]
   have TV:v0=v:=by
    rcases XM with ⟨_,hv⟩|⟨XH,_⟩
    ·have:=hv w rfl
     rw[Ip n AK i o v hin LX]at this;unfold Oper.quietAt at this;simp only[execOp,Sem.run_pure,Oper.quietUpon]at this;exact this.2.symm
    ·exfalso;have:Region.wanted (actOp n AK i o) (yielded (actFrom n AK 0 l).toArray aA.tmps)=Region.wanted o (yielded (actFrom n AK 0 l).toArray aA.tmps):=by
      unfold Region.wanted;rw[GU]
     rw[this,XJ,aK]at XH;cases XH
   subst TV;have next:∀u w',AA w w'/\(∀e∈al,e.i=i->e.is u w'/\∀b,vblk u=some b->w.heap.size<=b/\b<w'.heap.size)/\((∃e∈al,e.i=i)\/u=v0)->
    wpAny P .any l.toArray Q (f+(l.length-n)) (listed.setIfInBounds i true) ((fill listed g al aA).put o.dst u) w':=by
    rintro u w' ⟨XA,h3,h2⟩;by_cases Ga:∃e∈al,e.i=i
    ·obtain ⟨e,he,rfl⟩:=Ga;obtain ⟨hv,hb⟩:=h3 e he rfl;rw[hf.dst e he o DK];rw[<-I3 listed g e u v0 Jo AD al aA (fun x hx y hy=>(hf.own x hx).2 y hy) he (fun x hx=>(hf.own x hx).2 e he) N_];rw[<-hf.dst e he o DK];refine cont _ w' (hC.trans XA) ⟨?_,?_⟩
     ·intro x hx Rg;by_cases GI:x.i=e.i
      ·have Wm:x=e:=ak N_ hx he GI;subst Wm;simp only[if_true];exact ⟨hv,fun b h=>⟨Nat.le_trans hC.below.size (hb b h).1,(hb b h).2⟩⟩
      ·simp only[if_neg GI];rw[getD_set_ne false (fun h=>GI h.symm)]at Rg;exact (hS.later hstab XA).1 x hx Rg
     ·intro x hx y hy Rg fR Az;have old:∀z∈al,z.i≠e.i->(listed.setIfInBounds e.i true).getD z.i false=true->∀b,vblk (g z.i)=some b->b<w.heap.size:=by
       intro z hz xx qe b h;rw[getD_set_ne false (fun h=>xx h.symm)]at qe;exact ((hS.1 z hz qe).2 b h).2
      by_cases h1:x.i=e.i
      ·have h2:y.i≠e.i:=fun h=>Az (h1.trans h.symm)
       simp only[if_pos h1,if_neg h2];intro b h3 h4;have:=old y hy h2 fR b h4
       have:=(hb b h3).1
       omega
      ·by_cases h2:y.i=e.i
       ·simp only[if_neg h1,if_pos h2];intro b h3 h4;have:=old x hx h1 Rg b h3
        have:=(hb b h4).1
        omega
       ·simp only[if_neg h1,if_neg h2];rw[getD_set_ne false (fun h=>h1 h.symm)]at Rg;rw[getD_set_ne false (fun h=>h2 h.symm)]at fR;exact hS.2 x hx y hy Rg fR Az
    ·have h2:u=v0:=h2.resolve_left Ga;subst h2;have GL:∀e∈al,o.dst≠some e.s:=fun e he=>((hf.blind i o hin DK e he).2).resolve_left (fun h=>Ga ⟨e,he,h⟩)
     rw[<-Ep listed g o.dst u al aA GL];rw[DP listed (listed.setIfInBounds i true) g g al _ (fun e he=>⟨(getD_set_ne false (fun h=>Ga ⟨e,he,h.symm⟩)).symm,rfl⟩)];refine cont g w' (hC.trans XA) ?_;have:=hS.later hstab XA
     refine ⟨fun e he hl=>this.1 e he ?_,fun e he e' MU hl nV=>this.2 e he e' MU ?_ ?_⟩
     ·rwa [getD_set_ne false (fun h=>Ga ⟨e,he,h.symm⟩)]at hl
     ·rwa [getD_set_ne false (fun h=>Ga ⟨e,he,h.symm⟩)]at hl
     ·rwa [getD_set_ne false (fun h=>Ga ⟨e',MU,h.symm⟩)]at nV
   unfold wpOp;simp only[ho];rw[if_pos (by rw[MK];exact aK)];refine .inl ?_;unfold Oper.wp;rw[Qa];unfold BF at hstep;generalize (execOp (Ay g al F).eval o).run P w=r at hstep
   cases r with
   |halt x w'=>exact hstep.elim
   |ok nx w'=>
    cases nx <;> simp only at hstep <;> simp only[Oper.upon]
    case value u=>exact next u w' hstep
    case enter fn args=>
     obtain ⟨rfl,hc⟩:=hstep;exact hc.mono fun en Bg ⟨u,he,h⟩=>by subst he;exact next u Bg h
    all_goals first|exact hstep.elim|exact next _ w' hstep
  |none=>
   have Lj:=XM;rw[GS n AK i o hin LX]at Lj;have qj:∀j (hj:j<AK.length),i≠AK[j].1:=by
    intro j hj h;have:AK.lookup i≠none:=by
     rw[h];intro hn;rw[List.lookup_eq_none_iff]at hn;have:=hn _ (getElem_mem hj)
     simp at this
    exact this LX
   have iw:i∉AK.map (·.1):=by
    intro h;obtain ⟨x,hx,GI⟩:=List.mem_map.1 h;obtain ⟨j,hj,rfl⟩:=List.getElem_of_mem hx;exact qj j hj GI.symm
   have Lp:∀e∈al,e.s∉o.looksAt l.toArray:=fun e he=>((hf.blind i o hin DK e he).1).resolve_left iw
   have O3:∀e∈al,e.i≠i/\o.dst≠some e.s:=fun e he=>by
    have Az:e.i≠i:=fun h=>iw (h ▸ (hf.own e he).1)
    exact ⟨Az,((hf.blind i o hin DK e he).2).resolve_left Az⟩
   have H_:=Region.noSelect_spec hm.Yi;have hex:=FD (l:=l) listed g o (fun cs b=>H_ i o cs b ho) al aA Lp;have pI:=EJ (l:=l) listed g o al aA Lp;have iF:YieldsIn P l.toArray (fun w'=>w'=w) o v0 (fill listed g al aA):=by
    unfold YieldsIn Oper.quietAt at Lj ⊢;rw[hex,pI,<-XJ];exact Lj
   refine wpOp_of_qOp (C:=fun w'=>w'=w) rfl (K:=fun a'=>a'=(fill listed g al aA).put o.dst v0) ?_ (iF.qOp ho rfl);rintro a' w' rfl rfl;rw[<-Ep listed g o.dst v0 al aA (fun e he=>(O3 e he).2)];rw[DP listed (listed.setIfInBounds i true) g g al _ (fun e he=>⟨(getD_set_ne false (fun h=>(O3 e he).1 h.symm)).symm,rfl⟩)];refine cont g _ hC ?_;refine ⟨fun e he hl=>hS.1 e he ?_,fun e he e' MU hl nV=>hS.2 e he e' MU ?_ ?_⟩
   ·rwa [getD_set_ne false (fun h=>(O3 e he).1 h.symm)]at hl
   ·rwa [getD_set_ne false (fun h=>(O3 e he).1 h.symm)]at hl
   ·rwa [getD_set_ne false (fun h=>(O3 e' MU).1 h.symm)]at nV
def Ei(u:Value)(w w':World):Prop:=∀b,vblk u=some b->w.heap.size<=b/\b<w'.heap.size
theorem AP{id:Nat}{Q:Exit->Act->World->Prop}{a F:Act}{w:World}(n:Nat)(cs:List CA)(al:List Hy)(ZN:al=(cs.filter (·.free)).map CA.own)(hm:P.follows .mixedOrders=true)(hB:rowB l n ((cs.map CA.act).map (·.1))=true)(iG:OG l n ((cs.map CA.act).map (·.1)) (al.map fun e=>(e.i,e.s))=true)(N_:al.Pairwise fun x y=>x.i≠y.i)(Dc:Region.lexB .any (actFrom n (cs.map CA.act) 0 l).toArray=true)
 (hstab:∀c∈cs,∀v w w',AA w w'->c.is v w->c.is v w')
 (hfix:∀c∈cs,c.free=true\/∀u w,c.is u w->u=c.v)
 (hlex:∀U,AA w U->wpQuiet P (actFrom n (cs.map CA.act) 0 l).toArray (fun w'=>w'=U) (· =F) (actFrom n (cs.map CA.act) 0 l) a)
 (hstep:∀(j:Nat) (h:j<cs.length),∀o,l[cs[j].i]?=some o->Region.wanted o (yielded l.toArray F.tmps)=true/\∀g x,AA w x->(∀e∈al,e.s∈o.looksAt l.toArray->e.is (g e.i) x)->BF P (Ay g al F) o x fun u w'=>AA x w'/\cs[j].is u w'/\(cs[j].free=true->Ei u x w'))
 (htail:∀g (u:BA w),(∀e∈al,e.is (g e.i) (later u)/\∀b,vblk (g e.i)=some b->w.heap.size<=b/\b<(later u).heap.size)->(∀e∈al,∀e'∈al,e.i≠e'.i->∀b,vblk (g e.i)=some b->vblk (g e'.i)≠some b)->wpList P l.toArray Q (l.drop n) (Ay g al F) (later u)):
 (Code.region id l.toArray true).wp P Q a w:=by
 have hk:=rowOk hB;simp only[Region.lexB,Bool.and_eq_true]at Dc;have QB:HeadInv .any l.toArray n (Array.replicate l.toArray.size false):=⟨Ar,fun j oj _ h=>(by rw[getD_replicate_false]at h;cases h),fun t _ ht=>(by
  have lX:t<l.length:=by simpa using ht
  simp[lX])⟩
 have KJ:∀k,k<=l.length->EV (Array.replicate l.toArray.size false) k=k:=by
  intro k
  induction k with
  |zero=>intro _;rfl
  |succ k ih=>intro hk;simp only[EV,getD_replicate_false,ih AD];simp
 have Hx:n+(l.length-n)=l.length:=by have:=hk.NK;omega
 refine wp_region_any hm ?_;have hr:({w with drawn:=w.drawn+1}:World)=w.drew:=rfl;rw[hr];have M6:fill (Array.replicate l.toArray.size false) (fun _=>undef) al a=a:=by
  have:∀es:List Hy,fill (Array.replicate l.toArray.size false) (fun _=>undef) es a=a:=by
   intro es
   induction es with
   |nil=>rfl
   |cons e es ih=>simp only[fill,getD_replicate_false,ih];simp
  exact this al
 have hlen:(cs.map CA.act).length=cs.length:=length_map ..;have PP:∀(j:Nat) (h:j<(cs.map CA.act).length),(cs.map CA.act)[j].1=(cs[j]'(by rw[<-hlen];exact h)).i:=fun j h=>by simp[CA.act]
 have Az:∀(j k:Nat) (hj:j<cs.length) (Gh:k<cs.length),cs[j].i=cs[k].i->j=k:=fun j k hj Gh h=>hk.nodup j k (by rw[hlen];exact hj) (by rw[hlen];exact Gh) (by rw[PP,PP];exact h)
 have L6:∀e∈al,∃(j:Nat) (hj:j<cs.length),cs[j].free=true/\e=cs[j].own:=by
  intro e he;rw[ZN]at he;obtain ⟨c,hc,rfl⟩:=List.mem_map.1 he;obtain ⟨Om,D4⟩:=List.mem_filter.1 hc;obtain ⟨j,hj,rfl⟩:=List.getElem_of_mem Om;exact ⟨j,hj,D4,rfl⟩
 have:=free_run (P:=P) (W:=w) (Q:=Q) (F:=F) hk (TN iG) N_ (fun e he v x y BE hv=>by
  obtain ⟨j,hj,_,rfl⟩:=L6 e he;exact hstab _ (getElem_mem hj) v x y BE hv) (fun j hj o ho=>by
  have CQ:j<cs.length:=by rw[<-hlen];exact hj
  rw[PP]at ho;obtain ⟨h1,h2⟩:=hstep j CQ o ho;refine ⟨h1,fun g x hx hS=>?_⟩;have h3:=h2 g x hx hS;have key:∀u w',AA x w'/\cs[j].is u w'/\(cs[j].free=true->Ei u x w')->AA x w'/\(∀e∈al,e.i=(cs.map CA.act)[j].1->e.is u w'/\∀b,vblk u=some b->x.heap.size<=b/\b<w'.heap.size)/\((∃e∈al,e.i=(cs.map CA.act)[j].1)\/u=(cs.map CA.act)[j].2):=by
   rintro u w' ⟨hl,hi,hb⟩;refine ⟨hl,fun e he sf=>?_,?_⟩
   ·obtain ⟨j',Gw,Ga,rfl⟩:=L6 e he;rw[PP]at sf;have:=Az j' j Gw CQ sf
    subst this;exact ⟨hi,hb Ga⟩
   ·rcases hfix cs[j] (getElem_mem CQ) with hf|hf
    ·refine .inl ⟨cs[j].own,?_,by rw[PP];rfl⟩;rw[ZN];exact List.mem_map.2 ⟨cs[j],List.mem_filter.2 ⟨getElem_mem CQ,hf⟩,rfl⟩
    ·refine .inr ?_;have:=hf u w' hi
     simpa[CA.act] using this
  unfold BF at h3 ⊢;generalize (execOp (Ay g al F).eval o).run P x=r at h3
  cases r with
  |halt y w'=>exact h3
  |ok nx w'=>
   cases nx <;> simp only at h3 ⊢
   case value u=>exact key _ _ h3
   case enter fn args=>exact ⟨h3.1,h3.2.mono fun e Bg ⟨u,he,h⟩=>⟨u,he,key _ _ h⟩⟩
   all_goals first|exact h3|exact key _ _ h3) (fun g w' xV h1 h2=>by
  obtain ⟨u,rfl⟩:=xV;exact htail g u h1 h2) n (Array.replicate l.toArray.size false) a w.drew (fun _=>undef) (KJ n hk.NK) QB (AA.refl w).drew
  ⟨fun e _ h=>(by rw[getD_replicate_false]at h;cases h),fun e _ e' _ h=>(by rw[getD_replicate_false]at h;cases h)⟩ (fun U hU=>by
   have hl:=wpAnyQ_lex (P:=P) (C:=fun w'=>w'=U) (Q:=(· =F)) (md:=.any) Dc.1 (actFrom n (cs.map CA.act) 0 l) 0 (Array.replicate (actFrom n (cs.map CA.act) 0 l).toArray.size false) a Ar (by simpa using Dc.2) (hlex U hU);rw[Hx];simpa[Cy] using hl)
 rw[Hx,M6]at this;simpa using this
theorem At{f:FuncId}{args:Array Value}{w:World}{v:Value}(h:Calls P f args w fun e w'=>e=.returned v/\AA w w'):Calls P f args w fun e w'=>∃u,e=.returned u/\AA w w'/\u=v/\(false=true->Ei u w w'):=
 h.mono fun _ _ ⟨h1,h2⟩=>⟨v,h1,h2,rfl,fun h=>by cases h⟩
theorem Ai{f:FuncId}{args:Array Value}{w:World}{is:Value->World->Prop}(hb:∀u w',is u w'->vblk u=none)(h:Calls P f args w fun e w'=>∃u,e=.returned u/\AA w w'/\is u w'):Calls P f args w fun e w'=>∃u,e=.returned u/\AA w w'/\is u w'/\(true=true->Ei u w w'):=
 h.mono fun _ w' ⟨u,h1,h2,h3⟩=>⟨u,h1,h2,h3,fun _ b Hr=>by rw[hb u w' h3]at Hr;cases Hr⟩
theorem Gx{F:Act}{o:Oper}{w:World}{v:Value}(h:(execOp F.eval o).run P w=.ok (.value v) w):BF P F o w fun u w'=>AA w w'/\u=v/\(false=true->Ei u w w'):=by
 unfold BF;rw[h];exact ⟨AA.refl _,rfl,fun h=>by cases h⟩
theorem Ii{F:Act}{o:Oper}{w:World}{ob:Obj}(hr:∀(ρ:Operand->Value) (w:World),(execOp ρ o).run P w=.ok (.value (.pointer (some ⟨w.heap.size,0,none⟩))) (w.alloc ob)):BF P F o w fun u w'=>AA w w'/\GZ ob u w'/\(true=true->Ei u w w'):=by
 unfold BF;rw[hr];refine ⟨(AA.refl w).alloc ob,⟨w.heap.size,rfl,Ae rfl⟩,fun _ b hb=>?_⟩;simp only[vblk,Option.some.injEq]at hb;subst hb;exact ⟨Nat.le_refl _,by show _<(w.heap.push ob).size;simp⟩
end
end
end Go.Proofs.YtamhnffokoejjaaGreatDoor
