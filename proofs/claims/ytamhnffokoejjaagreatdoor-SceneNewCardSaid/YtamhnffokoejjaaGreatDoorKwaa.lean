import Derived.BigQuiet
import Derived.ProofKit
import Derived.OpenShut
import Derived.WalkLawsBesides
import Derived.Lib.Hide
import Derived.Deep.RegionHeld
set_option linter.all false
namespace Go.Proofs.YtamhnffokoejjaaGreatDoor
open List(getD_cons_zero getD_cons_succ)
open Nat(le_refl)
open Go.RowKit
section
structure BA(W:World) where
 now:World
 below:Below W.heap.size W now
def later{W:World}(u:BA W):World:=u.now
instance later_some (W:World):Nonempty (BA W):=⟨⟨W,Below.refl _ _⟩⟩
def AA(W w:World):Prop:=∃u:BA W,w=later u
section
variable {W w w':World}
theorem AA.of(h:Below W.heap.size W w):AA W w:=⟨⟨w,h⟩,rfl⟩
theorem AA.below(h:AA W w):Below W.heap.size W w:=by obtain ⟨u,rfl⟩:=h;exact u.below
theorem AA.refl(W:World):AA W W:=.of (Below.refl _ _)
theorem AA.trans{a b c:World}(h:AA a b)(k:AA b c):AA a c:=
 .of (h.below.trans (k.below.mono h.below.size))
theorem AA.drew(h:AA W w):AA W w.drew:=.of h.below.drew
theorem AA.drewN(h:AA W w)(n:Nat):AA W (w.drewN n):=.of ⟨h.below.os,h.below.tape,h.below.output,h.below.size,h.below.block⟩
theorem AA.alloc(h:AA W w)(o:Obj):AA W (w.alloc o):=.of (h.below.alloc h.below.size o)
theorem AA.setCell(h:AA W w){p:Addr}(hp:W.heap.size<=p.block)(v:Value):AA W (w.setCell p v):=.of (h.below.setCell hp v)
theorem AA.later(h:AA W w)(u:BA w):AA W (later u):=h.trans ⟨u,rfl⟩
theorem EQ{P:Program}{f:FuncId}{args:Array Value}{v:Value}{u:BA W}
 (c:Calls P f args (later u) fun e w'=>e=.returned v/\AA (later u) w'):
 Calls P f args (later u) fun e w'=>e=.returned v/\∃u':BA W,w'=later u':=
 c.mono fun _ _ ⟨he,hw⟩=>⟨he,AA.trans ⟨u,rfl⟩ hw⟩
theorem Id{P:Program}{f:FuncId}{args:Array Value}{v:Value}{u:BA W}
 (c:Calls P f args (later u) fun e w'=>e=.returned v/\later u=w'):
 Calls P f args (later u) fun e w'=>e=.returned v/\∃u':BA W,w'=later u':=
 c.mono fun _ _ ⟨he,hw⟩=>⟨he,u,hw.symm⟩
theorem DT{P:Program}{f:FuncId}{args:Array Value}{v:Value}
 (c:Calls P f args w fun e w'=>e=.returned v/\w=w'):Calls P f args w fun e w'=>e=.returned v/\AA w w':=
 c.mono fun _ _ ⟨he,hw⟩=>⟨he,hw ▸ AA.refl _⟩
end
theorem CN{k:IntKind}{a b:Int}(h:a=b):Ending.returned (.int k a)=.returned (.int k b):=by rw[h]
theorem Am{a b:Bool}(h:a=b):Ending.returned (.bool a)=.returned (.bool b):=by rw[h]
end
section
variable{a b r:Int}{l:List Int}{c:Nat}
def tl(c:Int):Bool:=decide (128<=c/\c<=191)
def Lt(r:Int):Bool:=decide (0<=r/\r<=1114111/\¬(55296<=r/\r<=57343))
def KS(n:Int):List Int:=
 if n<128 then [n] else if n<2048 then [192+n/64,128+n%64] else if n<65536 then [224+n/4096,128+n/64%64,128+n%64]
 else [240+n/262144,128+n/4096%64,128+n/64%64,128+n%64]
def BX(l:List Int):Prop:=∀c∈l,0<=c/\c<=255
def v2(a b:Int):Int:=(a-192)*64+(b-128)
def v3(a b c:Int):Int:=(a-224)*4096+(b-128)*64+(c-128)
def v4(a b c d:Int):Int:=(a-240)*262144+(b-128)*4096+(c-128)*64+(d-128)
def Le(n:Nat)(a b c d:Int):Int × Nat:=
 if n=0 then (0,0) else if a<128 then (a,1)
 else if 2<=n/\194<=a/\a<=223/\128<=b/\b<=191 then (v2 a b,2)
 else if 3<=n/\224<=a/\a<=239/\128<=b/\b<=191/\128<=c/\c<=191/\2048<=v3 a b c/\¬(55296<=v3 a b c/\v3 a b c<=57343) then (v3 a b c,3)
 else if 4<=n/\240<=a/\a<=247/\128<=b/\b<=191/\128<=c/\c<=191/\128<=d/\d<=191/\65536<=v4 a b c d/\v4 a b c d<=1114111 then (v4 a b c d,4)
 else (65533,1)
def JH(l:List Int):Int × Nat:=Le l.length (l.getD 0 0) (l.getD 1 0) (l.getD 2 0) (l.getD 3 0)
theorem V9(h:Lt r=true):0<=r/\r<=1114111/\¬(55296<=r/\r<=57343):=of_decide_eq_true h
theorem Yd(h:Lt r=true):
 (r<128/\KS r=[r])\/
 (∃a b,KS r=[a,b]/\194<=a/\a<=223/\128<=b/\b<=191/\r=v2 a b)\/
 (∃a b c,KS r=[a,b,c]/\224<=a/\a<=239/\128<=b/\b<=191/\128<=c/\c<=191/\2048<=v3 a b c/\¬(55296<=v3 a b c/\v3 a b c<=57343)/\r=v3 a b c)\/
 (∃a b c d,KS r=[a,b,c,d]/\240<=a/\a<=247/\128<=b/\b<=191/\128<=c/\c<=191/\128<=d/\d<=191/\65536<=v4 a b c d/\v4 a b c d<=1114111/\r=v4 a b c d):=by
 obtain ⟨h1,h2,h3⟩:=V9 h;unfold KS v2 v3 v4;by_cases q1:r<128
 ·left;exact ⟨q1,if_pos q1⟩
 ·rw[if_neg q1];by_cases q2:r<2048
  ·right;left;rw[if_pos q2];exact ⟨_,_,rfl,by omega,by omega,by omega,by omega,by omega⟩
  ·rw[if_neg q2];by_cases q3:r<65536
   ·right;right;left;rw[if_pos q3];exact ⟨_,_,_,rfl,by omega,by omega,by omega,by omega,by omega,by omega,by omega,by omega,by omega⟩
   ·right;right;right;rw[if_neg q3];exact ⟨_,_,_,_,rfl,by omega,by omega,by omega,by omega,by omega,by omega,by omega,by omega,by omega,by omega,by omega⟩
theorem rg(h1:194<=a)(h2:a<=223)(h3:128<=b)(h4:b<=191):KS (v2 a b)=[a,b]/\Lt (v2 a b)=true:=by
 unfold KS v2 Lt;rw[if_neg (by omega),if_pos (by omega)];refine ⟨?_,decide_eq_true (by omega)⟩
 congr 1
 ·omega
 ·congr 1;omega
theorem qs{c:Int}(h1:224<=a)(h2:a<=239)(h3:128<=b)(h4:b<=191)(h5:128<=c)(h6:c<=191)(h7:2048<=v3 a b c)(h8:¬(55296<=v3 a b c/\v3 a b c<=57343)):KS (v3 a b c)=[a,b,c]/\Lt (v3 a b c)=true:=by
 unfold v3 at h7 h8;unfold KS v3 Lt;rw[if_neg (by omega),if_neg (by omega),if_pos (by omega)];refine ⟨?_,decide_eq_true (by omega)⟩
 congr 1
 ·omega
 ·congr 1
  ·omega
  ·congr 1;omega
theorem tF{c d:Int}(h1:240<=a)(h2:a<=247)(h3:128<=b)(h4:b<=191)(h5:128<=c)(h6:c<=191)(hd:128<=d)(he:d<=191)(h7:65536<=v4 a b c d)(h8:v4 a b c d<=1114111):KS (v4 a b c d)=[a,b,c,d]/\Lt (v4 a b c d)=true:=by
 unfold v4 at h7 h8;unfold KS v4 Lt;rw[if_neg (by omega),if_neg (by omega),if_neg (by omega)];refine ⟨?_,decide_eq_true (by omega)⟩
 congr 1
 ·omega
 ·congr 1
  ·omega
  ·congr 1
   ·omega
   ·congr 1;omega
theorem jP(h:Lt r=true):1<=(KS r).length/\(KS r).length<=4:=by
 rcases Yd h with ⟨_,e⟩|⟨a,b,e,_⟩|⟨a,b,c,e,_⟩|⟨a,b,c,d,e,_⟩ <;> rw[e] <;> simp
theorem R4(l:List Int)(hb:BX l):(l=[]/\JH l=(0,0))\/(∃r rest,Lt r=true/\l=KS r++rest/\JH l=(r,(KS r).length))\/(l≠[]/\JH l=(65533,1)):=by
 match l,hb with
 |[],_=>left;exact ⟨rfl,rfl⟩
 |a::t,hb=>
  right
  have ha:=hb a (by simp);unfold JH Le;rw[if_neg (by simp)];simp only[getD_cons_zero,getD_cons_succ];by_cases q1:a<128
  ·left
   rw[if_pos q1];refine ⟨a,t,decide_eq_true (by omega),?_,?_⟩
   ·unfold KS;rw[if_pos q1];rfl
   ·unfold KS;rw[if_pos q1];rfl
  ·rw[if_neg q1];split
   ·rename_i h
    left
    obtain ⟨n1,h1,h2,h3,h4⟩:=h
    match t,n1,h3,h4 with
    |b::t,_,h3,h4=>
     obtain ⟨e,g⟩:=rg h1 h2 h3 h4;refine ⟨_,t,g,?_,?_⟩
     ·simp only[getD_cons_zero]at e ⊢;rw[e];rfl
     ·simp only[getD_cons_zero]at e ⊢;rw[e];rfl
   ·split
    ·rename_i h
     left
     obtain ⟨n1,h1,h2,h3,h4,h5,h6,h7,h8⟩:=h
     match t,n1,h3,h4,h5,h6,h7,h8 with
     |b::c::t,_,h3,h4,h5,h6,h7,h8=>
      obtain ⟨e,g⟩:=qs h1 h2 h3 h4 h5 h6 h7 h8;refine ⟨_,t,g,?_,?_⟩
      ·simp only[getD_cons_zero,getD_cons_succ]at e ⊢;rw[e];rfl
      ·simp only[getD_cons_zero,getD_cons_succ]at e ⊢;rw[e];rfl
    ·split
     ·rename_i h
      left
      obtain ⟨n1,h1,h2,h3,h4,h5,h6,h7,h8,h9,hz⟩:=h
      match t,n1,h3,h4,h5,h6,h7,h8,h9,hz with
      |b::c::d::t,_,h3,h4,h5,h6,h7,h8,h9,hz=>
       obtain ⟨e,g⟩:=tF h1 h2 h3 h4 h5 h6 h7 h8 h9 hz;refine ⟨_,t,g,?_,?_⟩
       ·simp only[getD_cons_zero,getD_cons_succ]at e ⊢;rw[e];rfl
       ·simp only[getD_cons_zero,getD_cons_succ]at e ⊢;rw[e];rfl
     ·right;exact ⟨by simp,rfl⟩
theorem Kz(hb:BX l):(JH l).2<=l.length/\(l≠[]->1<=(JH l).2)/\(JH l).2<=4:=by
 rcases R4 l hb with ⟨rfl,e⟩|⟨r,rest,hg,rfl,e⟩|⟨hn,e⟩
 ·rw[e];simp
 ·rw[e];have:=jP hg
  simp only[List.length_append];refine ⟨by omega,fun _=>this.1,this.2⟩
 ·rw[e];have:=List.length_pos_iff.2 hn
  exact ⟨by omega,fun _=>le_refl _,by decide⟩
theorem WV(hb:BX l):0<=(JH l).1/\(JH l).1<=1114111:=by
 rcases R4 l hb with ⟨rfl,e⟩|⟨r,rest,hg,rfl,e⟩|⟨hn,e⟩
 ·rw[e];decide
 ·rw[e];have:=V9 hg;exact ⟨this.1,this.2.1⟩
 ·rw[e];decide
theorem BX.drop(h:BX l)(n:Nat):BX (l.drop n):=fun c hc=>h c (List.mem_of_mem_drop hc)
theorem BX.get(h:BX l){i:Nat}(hi:i<l.length):0<=l[i]/\l[i]<=255:=h _ (List.getElem_mem hi)
def it(l:List Int):Nat->Nat
 |0=>0
 |j+1=>it l j+(JH (l.drop (it l j))).2
theorem N4{l:List Int}(hb:BX l):∀j,it l j<=l.length
 |0=>Nat.zero_le _
 |j+1=>by
  have h1:=N4 hb j;have h2:=(Kz (hb.drop (it l j))).1;rw[List.length_drop]at h2;unfold it;omega
theorem nP(hb:BX l){j:Nat}(h:it l j<l.length):it l j<it l (j+1)/\it l (j+1)<=it l j+4:=by
 have h2:=Kz (hb.drop (it l j));have:=h2.2.1 (by intro e;have:=congrArg List.length e;rw[List.length_drop]at this;simp at this;omega)
 show it l j<it l j+_/\it l j+_<=_
 omega
theorem TI{l:List Int}:∀{i j:Nat},i<=j->it l i<=it l j
 |i,0,h=>by
  obtain rfl:i=0:=by omega
  exact le_refl _
 |i,j+1,h=>by
  by_cases e:i=j+1
  ·subst e;exact le_refl _
  ·have:=TI (l:=l) (show i<=j by omega)
   show it l i<=it l j+(JH (l.drop (it l j))).2
   omega
theorem qJ{l:List Int}(hb:BX l):∀j,j<=it l j\/it l j=l.length
 |0=>.inl (Nat.zero_le _)
 |j+1=>by
  by_cases e:it l j<l.length
  ·have:=nP hb e
   rcases qJ hb j with h|h
   ·left;omega
   ·omega
  ·right
   have h1:=N4 hb j;have h2:=N4 hb (j+1);have h3:=TI (l:=l) (show j<=j+1 by omega);omega
structure Vr(l:List Int)(c:Nat):Prop where
 fin:it l c=l.length
 lt:∀j,j<c->it l j<l.length
theorem iL(l:List Int):∀n,(∃c,c<=n/\Vr l c)\/∀j,j<=n->it l j≠l.length
 |0=>by
  by_cases e:it l 0=l.length
  ·exact .inl ⟨0,le_refl _,e,fun j hj=>by omega⟩
  ·exact .inr fun j hj=>by
    obtain rfl:j=0:=by omega
    exact e
 |n+1=>by
  rcases iL l n with ⟨c,h1,h2⟩|h
  ·exact .inl ⟨c,by omega,h2⟩
  ·by_cases e:it l (n+1)=l.length
   ·refine .inl ⟨n+1,le_refl _,e,fun j hj=>?_⟩;have h1:=h j (by omega);have h2:=TI (l:=l) (show j<=n+1 by omega);omega
   ·refine .inr fun j hj=>?_
    by_cases e2:j=n+1
    ·subst e2;exact e
    ·exact h j (by omega)
theorem iW(hb:BX l):∃c,Vr l c/\c<=l.length:=by
 rcases iL l l.length with ⟨c,h1,h2⟩|h
 ·exact ⟨c,h2,h1⟩
 ·have h1:=h l.length (le_refl _);rcases qJ hb l.length with h2|h2
  ·have:=N4 hb l.length;omega
  ·exact absurd h2 h1
theorem Vr.uniq{d:Nat}(h:Vr l c)(k:Vr l d):c=d:=by
 rcases Nat.lt_trichotomy c d with e|e|e
 ·have:=k.lt c e;have:=h.fin;omega
 ·exact e
 ·have:=h.lt d e;have:=k.fin;omega
theorem Vr.aF{j:Nat}(h:Vr l c)(hj:j<=c):it l j<l.length↔j<c:=by
 constructor
 ·intro q;rcases Nat.lt_or_ge j c with e|e
  ·exact e
  ·obtain rfl:j=c:=by omega
   have:=h.fin;omega
 ·exact h.lt j
theorem Vr.le(hb:BX l)(h:Vr l c):c<=l.length:=by
 obtain ⟨d,h1,h2⟩:=iW hb;rw[h.uniq h1];exact h2
end
end Go.Proofs.YtamhnffokoejjaaGreatDoor
