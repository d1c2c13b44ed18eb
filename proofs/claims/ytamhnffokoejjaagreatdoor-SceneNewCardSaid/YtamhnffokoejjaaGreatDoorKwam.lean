import Derived.Test.YtamhnffokoejjaaGreatDoorKwai
import Derived.Test.YtamhnffokoejjaaGreatDoorKwak
set_option linter.all false
set_option maxHeartbeats 3200000
set_option maxRecDepth 100000
namespace Go.Proofs.YtamhnffokoejjaaGreatDoor
open List(take_succ_eq_append_getElem take_append_drop getElem_mem length_append length_take length_drop append_assoc length mem_cons not_mem_nil mem_of_getElem?)
open Nat(lt_or_ge min_eq_left)
open Go.Proofs.Tryz
open Go.RowKit
section
variable{e n x:Int}{s:Int × Int}{l:List (Int × Int)}{F:List Int}{i j:Nat}{v:Value}{w:World}
theorem ED(h:Ff F n){k:Nat}(hk:k<=F.length)(h0:0<=x):k<=below x F↔Jw F k<=x:=by
 cases k with
 |zero=>simp[Jw,h0]
 |succ j=>
  have e:Jw F (j+1)=F.getD j 0+1:=by unfold Jw;rw[if_neg AD];rfl
  rw[e];constructor
  ·intro hj;have:=(Ke F x j AD).2
   omega
  ·intro hj;refine Nat.not_lt.1 fun BN=>?_
   have h1:=M0 F x AD;rcases lt_or_ge (below x F) j with h2|h2
   ·have:=h.up _ _ h2 AD
    omega
   ·have h3:below x F=j:=AD;rw[h3]at h1;omega
def eK(F:List Int)(n k:Int)(s:Int × Int):Bool:=decide (0<=s.1/\s.1<=n/\0<=s.2/\s.2<=n/\((below s.1 F:Nat):Int)<k/\k<=((below s.2 F:Nat):Int))
def Gz(F:List Int)(n k:Int)(l:List (Int × Int)):Bool:=l.any (eK F n k)
def NN(a e:Int)(s:Int × Int):Bool:=decide (0<=s.1/\s.1<a/\a<=s.2/\s.2<=e)
theorem m_(h:Ff F n){k:Nat}(hk:k<=F.length)(s:Int × Int):NN (Jw F k) n s=eK F n k s:=by
 unfold NN eK;rw[decide_eq_decide];constructor
 ·rintro ⟨h1,h2,h3,h4⟩;have q1:=ED (x:=s.1) h hk h1;have q2:=(ED (x:=s.2) h hk AD).2 h3;refine ⟨h1,AD,AD,h4,?_,AD⟩;have:¬k<=below s.1 F:=fun q=>by have:=q1.1 q;omega
  omega
 ·rintro ⟨h1,h2,h3,h4,h5,h6⟩;have q1:=ED (x:=s.1) h hk h1;have q2:=(ED (x:=s.2) h hk h3).1 AD;have:¬Jw F k<=s.1:=fun q=>by have:=q1.2 q;omega
  omega
theorem Tp(h:Ff F n){k:Nat}(hk:k<=F.length)(l:List (Int × Int)):l.any (NN (Jw F k) n)=Gz F n k l:=by
 unfold Gz
 congr 1
 funext s
 exact m_ h hk s
theorem mU{k:Int}(h:Gz F n k l=true):1<=k/\k<=F.length:=by
 obtain ⟨s,_,hs⟩:=List.any_eq_true.1 h;unfold eK at hs;have:=of_decide_eq_true hs
 have:=FT F s.2
 omega
def XB(F:List Int)(n:Int)(s:Int × Int):Int × Int:=if 0<=s.1/\s.1<=n/\0<=s.2/\s.2<=n then (((below s.1 F:Nat):Int)+1,((below s.2 F:Nat):Int)+1) else (0,0)
theorem Sf{F:List Int}{n:Int}(hF:F.length<=60000)(y:Int):∀l:List (Int × Int),C9 (l.map (XB F n)) y=Gz F n y l
 |[]=>rfl
 |s::l=>by
  rw[List.map_cons,Ce,Sf hF y l];show _=(eK F n y s || Gz F n y l)
  congr 1
  have h1:=FT F s.1;have h2:=FT F s.2;unfold eK XB;rw[decide_eq_decide];split
  ·simp only
   omega
  ·simp only
   omega
def Ed(n:Int)(s:Int × Int):Bool:=decide (0<=s.1/\s.1<s.2/\s.2<=n)
def BJ(n:Int):Int->List (Int × Int)->Bool
 |_,[]=>true
 |e,s::l=>decide (e<=s.1/\s.1<s.2/\s.2<=n) && BJ n s.2 l
theorem Ny(n:Int)(s:Int × Int):BJ n 0 [s]=Ed n s:=by unfold BJ BJ Ed;rw[Bool.and_true]
theorem Fk(n:Int):∀(A B:List (Int × Int)) (e:Int),BJ n e (A++B)=(BJ n e A && BJ n ((A.getLast?.map (·.2)).getD e) B)
 |[],B,e=>by simp[BJ]
 |a::A,B,e=>by
  rw[List.cons_append,BJ,BJ,Fk n A B a.2,Bool.and_assoc]
  cases A with
  |nil=>rfl
  |cons b A=>rw[List.getLast?_cons_cons];cases hx:(b::A).getLast? with
   |none=>simp at hx
   |some y=>rfl
def XQ(e:Int)(l:List (Int × Int)):Int:=(l.getLast?.map (·.2)).getD e
theorem fE(e:Int)(l:List (Int × Int))(s:Int × Int):XQ e (l++[s])=s.2:=by unfold XQ;rw[List.getLast?_concat];rfl
theorem YT(n e:Int)(l:List (Int × Int))(s:Int × Int):BJ n e (l++[s])=(BJ n e l && decide (XQ e l<=s.1/\s.1<s.2/\s.2<=n)):=by
 rw[Fk];simp only[BJ,Bool.and_true];rfl
theorem PV(h:j<l.length):BJ n e (l.take (j+1))=(BJ n e (l.take j) && decide (XQ e (l.take j)<=l[j].1/\l[j].1<l[j].2/\l[j].2<=n)):=by
 rw[take_succ_eq_append_getElem h,YT]
theorem S3(h:j<l.length):XQ e (l.take (j+1))=l[j].2:=by
 rw[take_succ_eq_append_getElem h,fE]
theorem OM(h:j<=l.length)(hf:BJ n e (l.take j)=false):BJ n e l=false:=by
 have:=Fk n (l.take j) (l.drop j) e
 rw[take_append_drop,hf]at this;simpa using this
theorem GE{n:Int}:∀{l:List (Int × Int)} {e:Int},0<=e->BJ n e l=true->∀s∈l,e<=s.1/\s.1<s.2/\s.2<=n
 |[],_,_,_,s,hs=>by simp at hs
 |a::l,e,he,h,s,hs=>by
  rw[BJ,Bool.and_eq_true,decide_eq_true_eq]at h;rcases List.mem_cons.1 hs with rfl|hs
  ·exact h.1
  ·have:=GE AD h.2 s hs
   omega
theorem MV{n:Int}:∀{l:List (Int × Int)} {e:Int},0<=e->BJ n e l=true->l.Pairwise fun a b=>a.2<=b.1
 |[],_,_,_=>List.Pairwise.nil
 |a::l,e,he,h=>by
  rw[BJ,Bool.and_eq_true,decide_eq_true_eq]at h;exact List.pairwise_cons.2 ⟨fun b hb=>(GE AD h.2 b hb).1,MV AD h.2⟩
def BR(s:Int × Int)(l:List (Int × Int)):Nat:=(l.takeWhile fun r=>decide (r.2<=s.1)).length
def C7(s:Int × Int)(l:List (Int × Int)):Bool:=l.any fun r=>decide (r.1<s.2/\s.1<r.2)
theorem JD(s:Int × Int)(l:List (Int × Int)):BR s l<=l.length:=(List.takeWhile_prefix _).length_le
theorem Io(s:Int × Int):∀(l:List (Int × Int)) (i:Nat) (h:i<l.length),i<BR s l->l[i].2<=s.1
 |[],i,h,_=>absurd h Ar
 |r::l,i,h,ha=>by
  unfold BR at ha;by_cases hr:r.2<=s.1
  ·rw[List.takeWhile_cons_of_pos (by simpa using hr)]at ha
   cases i with
   |zero=>exact hr
   |succ i=>exact Io s l i (by simpa using h) (by unfold BR;simpa using ha)
  ·rw[List.takeWhile_cons_of_neg (by simpa using hr)]at ha;exact absurd ha Ar
theorem LQ(s:Int × Int):∀(l:List (Int × Int)) (h:BR s l<l.length),s.1<l[BR s l].2
 |[],h=>absurd h Ar
 |r::l,h=>by
  by_cases hr:r.2<=s.1
  ·have e:BR s (r::l)=BR s l+1:=by unfold BR;rw[List.takeWhile_cons_of_pos (by simpa using hr)];rfl
   have:=LQ s l (by rw[e]at h;simpa using h)
   simp only[e,List.getElem_cons_succ];exact this
  ·have e:BR s (r::l)=0:=by unfold BR;rw[List.takeWhile_cons_of_neg (by simpa using hr)];rfl
   simp only[e,List.getElem_cons_zero];omega
theorem VN(hg:BJ n 0 l=true):C7 s l=true↔∃h:BR s l<l.length,l[BR s l].1<s.2:=by
 unfold C7;rw[List.any_eq_true];constructor
 ·rintro ⟨r,hr,hq⟩;have hq:=of_decide_eq_true hq;obtain ⟨i,hi,rfl⟩:=List.getElem_of_mem hr;have h1:BR s l<=i:=Nat.not_lt.1 fun h=>by have:=Io s l i hi h;omega
  refine ⟨AD,?_⟩;rcases lt_or_ge (BR s l) i with h2|h2
  ·have h3:=List.pairwise_iff_getElem.1 (MV (Int.le_refl 0) hg) _ _ AD hi h2;have h4:=GE (Int.le_refl 0) hg l[BR s l] (getElem_mem AD);omega
  ·have h3:BR s l=i:=AD;simp only[h3];exact hq.1
 ·rintro ⟨h,hq⟩;exact ⟨_,getElem_mem h,decide_eq_true ⟨hq,LQ s l h⟩⟩
theorem Ye(h:j<l.length):C7 s (l.take (j+1))=(C7 s (l.take j) || decide (l[j].1<s.2/\s.1<l[j].2)):=by
 unfold C7;rw[take_succ_eq_append_getElem h,List.any_append];simp
theorem dt(h:j<l.length)(hc:l[j].1<s.2/\s.1<l[j].2):C7 s l=true:=List.any_eq_true.2 ⟨_,getElem_mem h,decide_eq_true hc⟩
def Pj(s:Int × Int)(l:List (Int × Int)):List (Int × Int):=l.take (BR s l)++[s]++l.drop (BR s l)
theorem jY(s:Int × Int)(l:List (Int × Int)):(Pj s l).length=l.length+1:=by
 have:=JD s l
 unfold Pj;simp only[length_append,length_take,length_drop,List.length_singleton];omega
theorem P9{f:Int}(h:BJ n e l=true)(hf:∀h:0<l.length,f<=l[0].1):BJ n f l=true:=by
 cases l with
 |nil=>rfl
 |cons a l=>
  have:=hf Ar
  rw[BJ,Bool.and_eq_true,decide_eq_true_eq]at h ⊢;exact ⟨⟨by simpa using this,h.1.2⟩,h.2⟩
theorem eY(hg:BJ n 0 l=true)(hs:Ed n s=true)(hc:C7 s l=false):BJ n 0 (Pj s l)=true:=by
 unfold Ed at hs;have hs:=of_decide_eq_true hs;have h1:=Fk n (l.take (BR s l)) (l.drop (BR s l)) 0;rw[take_append_drop,hg]at h1;have h1:=h1.symm;rw[Bool.and_eq_true]at h1;unfold Pj;rw[append_assoc,Fk,h1.1,Bool.true_and];show BJ n _ (s::l.drop (BR s l))=true
 rw[BJ,Bool.and_eq_true,decide_eq_true_eq];refine ⟨⟨?_,hs.2⟩,P9 h1.2 fun h=>?_⟩
 ·rcases Nat.eq_zero_or_pos (BR s l) with h0|h0
  ·rw[h0];simp;omega
  ·obtain ⟨a,ha⟩:∃a,BR s l=a+1:=⟨BR s l-1,AD⟩;have hl:=JD s l;rw[ha,take_succ_eq_append_getElem AD,List.getLast?_concat];exact Io s l a AD AD
 ·rw[length_drop]at h;have h2:BR s l<l.length:=AD;have h3:¬l[BR s l].1<s.2:=fun q=>by
   rw[(VN hg).2 ⟨h2,q⟩]at hc;cases hc
  simp only[List.getElem_drop,Nat.add_zero];omega
def FP(s:Int × Int)(l:List (Int × Int))(i:Nat):List (Int × Int):=if i<=BR s l then l.take i else l.take (BR s l)++[s]++(l.take i).drop (BR s l)
theorem eu(s:Int × Int)(l:List (Int × Int)):FP s l 0=[]:=by unfold FP;rw[if_pos (Nat.zero_le _),List.take_zero]
theorem Y3(h:i<l.length)(ha:i<BR s l):FP s l (i+1)=FP s l i++[l[i]]:=by
 unfold FP;rw[if_pos AD,if_pos AD,take_succ_eq_append_getElem h]
theorem nZ(h:i<l.length)(ha:i=BR s l):FP s l (i+1)=FP s l i++[s]++[l[i]]:=by
 unfold FP;rw[if_neg AD,if_pos AD,<-ha,take_succ_eq_append_getElem h,List.drop_append,length_take,min_eq_left AD,Nat.sub_self,List.drop_zero,List.drop_eq_nil_of_le (by rw[length_take];omega),List.nil_append]
theorem WQ(h:i<l.length)(ha:BR s l<i):FP s l (i+1)=FP s l i++[l[i]]:=by
 unfold FP;rw[if_neg AD,if_neg AD,take_succ_eq_append_getElem h,List.drop_append,length_take,min_eq_left AD,Nat.sub_eq_zero_of_le AD,List.drop_zero,append_assoc,append_assoc,append_assoc]
theorem ky(s:Int × Int)(l:List (Int × Int)):(if l.length<=BR s l then FP s l l.length++[s] else FP s l l.length)=Pj s l:=by
 have hl:=JD s l;unfold FP Pj;split
 ·rename_i h
  have e:BR s l=l.length:=AD;rw[e,List.drop_length,List.append_nil]
 ·rename_i h
  rw[List.take_length]
theorem ik(s:Int × Int)(l:List (Int × Int))(i:Nat):(FP s l i).length<=l.length+1:=by
 unfold FP;split
 ·rw[length_take];omega
 ·simp only[length_append,length_take,length_drop,List.length_singleton];omega
def QA(s:Int × Int)(l:List (Int × Int))(n:Int):Int:=if BJ n 0 l=true/\Ed n s=true then if C7 s l=true then 4 else 0 else 1
def Ia(s:Int × Int)(l:List (Int × Int))(n:Int):List (Int × Int):=if QA s l n=0 then Pj s l else []
theorem NC(h:¬(BJ n 0 l=true/\Ed n s=true)):QA s l n=1/\Ia s l n=[]:=by unfold Ia QA;rw[if_neg h];exact ⟨rfl,rfl⟩
theorem Po(h:BJ n 0 l=true/\Ed n s=true)(hc:C7 s l=true):QA s l n=4/\Ia s l n=[]:=by unfold Ia QA;rw[if_pos h,if_pos hc];exact ⟨rfl,rfl⟩
theorem TQ(h:BJ n 0 l=true/\Ed n s=true)(hc:C7 s l=false):QA s l n=0/\Ia s l n=Pj s l:=by unfold Ia QA;rw[if_pos h,if_neg (by rw[hc];decide)];exact ⟨rfl,rfl⟩
theorem W6(s:Int × Int)(l:List (Int × Int))(n:Int):(Ia s l n).length<=l.length+1:=by
 unfold Ia;split
 ·rw[jY];exact Nat.le_refl _
 ·exact Nat.zero_le _
theorem cT(h:QA s l n=0):BJ n 0 (Ia s l n)=true:=by
 unfold QA at h;split at h
 ·rename_i hh
  split at h
  ·cases h
  ·rename_i hc
   have hc:C7 s l=false:=by simpa using hc
   rw[(TQ hh hc).2];exact eY hh.1 hh.2 hc
 ·cases h
theorem U6{l:List Int}{k:Nat}(hk:k<=l.length)(h1:∀(t:Nat) (h:t<l.length),t<k->l[t]<x)(h2:∀(h:k<l.length),x<=l[k]):below x l=k:=by
 have e:l=l.take k++l.drop k:=(take_append_drop k l).symm;unfold below;rw[e,List.takeWhile_append_of_pos,length_append,length_take,min_eq_left hk]
 ·rcases lt_or_ge k l.length with h|h
  ·rw[List.drop_eq_getElem_cons h,List.takeWhile_cons_of_neg (by have:=h2 h;simp;omega)];simp
  ·rw[List.drop_of_length_le h];simp
 ·intro y hy;obtain ⟨t,ht,rfl⟩:=List.getElem_of_mem hy;rw[length_take]at ht;rw[List.getElem_take];have:=h1 t AD AD
  simpa using this
theorem sB(x:Int)(w:World):Calls prog 279 #[.int .i32 x] w fun e w'=>e=.returned (.bool false)/\w=w':=by
 go_enter func279,ntmps279
 go_wp2
 go_ret;exact ⟨Am Ar,rfl⟩
theorem qo(x:Int)(w:World):Calls prog 262 #[.int .i32 x] w fun e w'=>e=.returned (.bool false)/\w=w':=by
 go_enter func262,ntmps262
 go_wp2
 go_ret;exact ⟨Am Ar,rfl⟩
theorem fO(x y:Int)(c:Bool)(hc:decide (x<y)=c)(w:World):Calls prog 261 #[.int .i32 x,.int .i32 y] w fun e w'=>e=.returned (.bool c)/\w=w':=by
 have HN:=AC sB;have HC:=AC hc;clear hc;go_enter func261,ntmps261;go_wp2_with (go_at_call 279;refine (HN _ _).mono ?_;rintro e w' ⟨rfl,rfl⟩)
 go_ret;exact ⟨Am (by rw[<-HC.out]),rfl⟩
theorem W_(b off n cap:Nat)(g:Nat->Int)(x:Int)(w:World)(hb:b<w.heap.size)(OW:∀t,t<n->w.cell? ⟨b,off+t,none⟩=some (.int .i32 (g t)))(hs:∀t u,t<u->u<n->g t<g u)(hn:n<=90000):
 Calls prog 234 #[.slice (some ⟨b,off,none⟩) n cap,.int .i32 x] w fun e w'=>(∃(k:Nat) (c:Bool),e=.returned (.tuple #[.int .i64 (k:Int),.bool c])/\k<=n/\(∀t,t<k->g t<x)/\(k<n->x<=g k))/\AA w w':=by
 have HN:=AC qo;have vX:=AC fO;have HS:=AC hs;have HC:=AC OW;clear hs OW;go_enter func234,ntmps234;go_wp2_with fail;go_loopg [7,8] n (fun kk iv jv wr=>AA w wr/\∃i j:Nat,kk=j-i/\i<=j/\j<=n/\iv=.int .i64 (i:Int)/\jv=.int .i64 (j:Int)/\(∀t,t<i->g t<x)/\(∀t,t<n->j<=t->x<=g t))
 case atStart=>exact ⟨AA.refl _,0,n,AD,AD,AD,rfl,rfl,fun t h=>by omega,fun t h h'=>by omega⟩
 case round=>
  obtain ⟨AW,i,j,hk,Fr,hj,rfl,rfl,q1,q2⟩:=hrel;have HA:=AC AW;have HQ:=AC (And.intro q1 q2);clear q1 q2 AW;by_cases BN:i<j
  ·have d0:(i:Int)<(j:Int):=AD;obtain ⟨h,hh⟩:=BZ ((i+j)/2);have hi:i<=h/\h<j:=AD;have c0:wr.cell? ⟨b,off+h,none⟩=some (.int .i32 (g h)):=(HA.out.below.cell hb).trans (HC h AD);by_cases hc:g h<x
   ·have HL:=AC (vX (g h) x true (by simpa using hc));go_wp2_with fail;refine (HL wr).mono ?_;rintro e w' ⟨rfl,rfl⟩;go_wp2_with fail;go_roundg (j-(h+1))
    case measure=>omega
    case rel=>exact ⟨HA.out,h+1,j,rfl,AD,hj,by (congr 1;omega),rfl,fun t ht=>by
     rcases lt_or_ge t h with h1|h1
     ·have:=HS t h h1 AD;omega
     ·obtain rfl:t=h:=AD
      exact hc,HQ.out.2⟩
   ·have HL:=AC (vX (g h) x false (by simpa using hc));go_wp2_with fail;refine (HL wr).mono ?_;rintro e w' ⟨rfl,rfl⟩;go_wp2_with fail;go_roundg (h-i)
    case measure=>omega
    case rel=>exact ⟨HA.out,i,h,rfl,AD,AD,rfl,by (congr 1;omega),HQ.out.1,fun t ht h1=>by
     rcases lt_or_ge h t with h2|h2
     ·have:=HS h t h2 ht;omega
     ·obtain rfl:t=h:=AD
      omega⟩
  ·obtain rfl:i=j:=AD
   have KQ:Hid (∀c:Bool,(∃(k:Nat) (c':Bool),Ending.returned (.tuple #[.int .i64 (i:Int),.bool c])=.returned (.tuple #[.int .i64 (k:Int),.bool c'])/\k<=n/\(∀t,t<k->g t<x)/\(k<n->x<=g k))/\AA w wr):=AC (fun c=>⟨⟨i,c,rfl,hj,HQ.out.1,fun h=>HQ.out.2 i h (Nat.le_refl _)⟩,HA.out⟩);by_cases hin:i<n
   ·have d0:(i:Int)<(n:Int):=AD;have c0:wr.cell? ⟨b,off+i,none⟩=some (.int .i32 (g i)):=(HA.out.below.cell hb).trans (HC i hin);clear BN hk;by_cases he:g i=x
    ·go_wp2_with fail;refine bodyPost_ret (v:=.tuple #[.int .i64 (i:Int),.bool true]) (by simp[results,results234,go_sem]) rfl ?_;exact KQ.out true
    ·have he2:(g i == x)=false:=by simpa using he
     clear he;go_wp2_with (go_at_call 262;refine (HN _ _).mono ?_;rintro e w' ⟨rfl,rfl⟩)
     refine bodyPost_ret (v:=.tuple #[.int .i64 (i:Int),.bool false]) (by simp[results,results234,go_sem]) rfl ?_;exact KQ.out false
   ·have d0:decide ((i:Int)<(n:Int))=false:=decide_eq_false AD;clear BN hk;go_wp2_with fail;refine bodyPost_ret (v:=.tuple #[.int .i64 (i:Int),.bool false]) (by simp[results,results234,go_sem]) rfl ?_;exact KQ.out false
theorem Wu(A:Option Addr)(cap:Nat)(x:Int)(w:World):
 Calls prog 234 #[.slice A 0 cap,.int .i32 x] w fun e w'=>e=.returned (.tuple #[.int .i64 0,.bool false])/\AA w w':=by
 go_enter func234,ntmps234;go_wp2_with fail;refine wp_loop_rounds 1 ?_;rw[rounds_succ];go_wp2_with fail;refine bodyPost_ret (v:=.tuple #[.int .i64 0,.bool false]) (by simp[results,results234,go_sem]) rfl ⟨rfl,?_⟩;exact BQ
theorem Xb(v:Value)(l:List Int)(x:Int)(w:World)(k:Nat)(hk:below x l=k)(hv:RN .i32 w v l)(hs:l.Pairwise (· < ·))(hn:l.length<=90000):
 Calls prog 234 #[v,.int .i32 x] w fun e w'=>(∃c,e=.returned (.tuple #[.int .i64 (k:Int),.bool c]))/\AA w w':=by
 subst hk;obtain ⟨A,cap,rfl,h2,h3⟩:=hv;rcases Nat.eq_zero_or_pos l.length with h0|h0
 ·obtain rfl:=List.eq_nil_of_length_eq_zero h0
  refine (Wu A cap x w).mono ?_;rintro e w' ⟨rfl,b⟩;exact ⟨⟨false,rfl⟩,b⟩
 ·obtain ⟨b,off,rfl,hb,hc⟩:=h3 h0;have MI:=List.pairwise_iff_getElem.1 hs;have hg:∀t (h:t<l.length),l.getD t 0=l[t]:=fun t h=>by simp[List.getD_eq_getElem?_getD,h]
  refine (W_ b off l.length cap (fun t=>l.getD t 0) x w hb (fun t ht=>by rw[hc t ht,hg t ht]) (fun t u h1 h2=>by rw[hg t AD,hg u h2];exact MI t u _ _ h1) hn).mono ?_;rintro e w' ⟨⟨k,c,rfl,q1,q2,q3⟩,bb⟩;refine ⟨⟨c,?_⟩,bb⟩;rw[U6 q1 (fun t h ht=>by have:=q2 t ht;rwa [hg t h]at this) (fun h=>by have:=q3 h;rwa [hg k h]at this)]
theorem Pc.ZB(p:Pc):p.fs.length<=p.b.length:=Dg p.b p.base
theorem Ri(p:Pc)(bv fv:Value)(w:World)(x:Int)(i c:Nat)(hx:x=(i:Int))(hc:(Ap p.base (p.b.take i)).length=c)(hp:EA w bv fv p)(fp:p.Fair)(hi:i<=p.b.length):
 Calls prog 191 #[GM bv fv p,.int .i64 x] w fun e w'=>e=.returned (.int .i64 (c:Int))/\AA w w':=by
 subst hx;have hB:below (p.base+(i:Int)) p.fs=c:=by rw[<-hc];exact I7 p.b p.base i hi
 obtain ⟨f1,f2,f3,-⟩:=fp;have hl:=p.ZB;have HS:=AC (fun (w':World) (b:AA w w')=>Xb fv p.fs (p.base+(i:Int)) w' c hB (hp.2.later b).rn (Jp p.b p.base) AD);obtain ⟨A,cap,rfl,-⟩:=hp.1.form;obtain ⟨A2,BP,rfl,-⟩:=hp.2.form;unfold GM;have g1:0<=p.base+(i:Int):=AD;have g2:p.base+(i:Int)<=90000:=AD;clear hp hc hB hl;generalize p.b.length=n at *;generalize p.fs.length=m at *;generalize p.base=b0 at *;go_enter func191,ntmps191;go_wp2_with fail;refine (HS _ BQ).mono ?_;rintro e w2 ⟨⟨c2,rfl⟩,b2⟩;have HB:Hid (AA w w2):=AC (AA.trans BQ b2);clear b2;go_wp2_with fail;go_ret;exact ⟨rfl,HB.out⟩
theorem cu(p:Pc)(bv fv:Value)(w:World)(x y:Int)(k:Nat)(hx:x=(k:Int))(hk:k<p.fs.length)(hy:p.fs[k]-p.base=y)(hp:EA w bv fv p)(fp:p.Fair):
 Calls prog 194 #[GM bv fv p,.int .i64 x] w fun e w'=>e=.returned (.int .i64 y)/\AA w w':=by
 subst hx;obtain ⟨f1,f2,f3,-⟩:=fp;have hm:=Dt p.b p.base p.fs[k] (getElem_mem hk);obtain ⟨A,cap,rfl,-⟩:=hp.1.form;obtain ⟨A2,BP,rfl,h2,h3⟩:=hp.2;obtain ⟨b,off,cs,m,rfl,hb,hc⟩:=h3 AD;have Eq:w.cell? ⟨b,off+k,none⟩=some (.int .i32 p.fs[k]):=by rw[<-hc k hk];simp[World.cell?,hb]
 unfold GM;generalize p.fs[k]=z at *;subst hy;clear hp hc h3 hb;have Gh:(k:Int)<(p.fs.length:Int):=AD;generalize p.b.length=n at *;generalize p.fs.length=m2 at *;generalize p.base=b0 at *;go_enter func194,ntmps194;go_wp2_with fail;refine JL w (w.heap.size) (.cells #[.slice A n cap,.slice (some ⟨b,off,none⟩) m2 BP,.int .i64 b0] 191) ?_;intro w1 AJ AH;have AG:=AJ;have B7:=AE AH;have c1:=Ak AG Eq
 go_quiet (fail)
 go_wp2_with fail;go_ret;refine ⟨rfl,?_⟩;exact AG.drewN _
def MC(q:Pc)(v:Value)(w:World):Prop:=∃bv fv,v=GM bv fv q/\EA w bv fv q
theorem Pg{q:Pc}{w':World}(h:AA w w')(s:MC q v w):MC q v w':=by
 obtain ⟨bv,fv,e,hq⟩:=s;exact ⟨bv,fv,e,hq.later h⟩
theorem RT.cut{k:IntKind}{t:TypeId}{A:Option Addr}{cap:Nat}{l:List Int}(h:RT k t w (.slice A l.length cap) l)(lo hi:Nat)(h1:lo<=hi)(h2:hi<=l.length):
 RT k t w (.slice (if hi=lo then A else A.map (fun x=>x.add lo)) (hi-lo) (hi-lo)) ((l.drop lo).take (hi-lo)):=by
 obtain ⟨A',DZ,e,h3,h4⟩:=h;cases e;have hl:((l.drop lo).take (hi-lo)).length=hi-lo:=by rw[length_take,length_drop];omega
 refine ⟨_,_,by rw[hl],by rw[hl];exact Nat.le_refl _,fun h0=>?_⟩;rw[hl]at h0;obtain ⟨b,off,cs,m,rfl,hb,hc⟩:=h4 AD;rw[if_neg AD];refine ⟨b,off+lo,cs,m,by rw[Option.map_some,Db],hb,fun j hj=>?_⟩;rw[hl]at hj;rw[Nat.add_assoc,hc (lo+j) AD,List.getElem_take,List.getElem_drop]
theorem bG{l:List Int}(h:RT .u8 5 w v l)(lo hi:Nat)(h1:lo<=hi)(h2:hi<=l.length):∃A cap,RT .u8 5 w (.slice A (hi-lo) cap) ((l.drop lo).take (hi-lo))/\
 ∀w',(Instr.sliceAt 22 v (some (.int .i64 (lo:Int))) (some (.int .i64 (hi:Int))) (some (.int .i64 (hi:Int)))).run prog w'=.ok (.slice A (hi-lo) cap) w':=by
 obtain ⟨A,cap,rfl,h3⟩:=h.form;refine ⟨_,_,h.cut lo hi h1 h2,fun w'=>?_⟩;rw[run_sliceAt_slice w' _ _ _ _ _ underlying22,run_slice_lhm w' _ A l.length cap underlying22 .i64 .i64 .i64 (lo:Int) (hi:Int) (hi:Int) AD AD AD AD];have hz:∀w,(Go.sizeOf (prog.elem 22)).run prog w=.ok 1 w:=fun w=>by simp[go_sem]
 rw[hz];simp[Result.andThen,sliced]
theorem dR{l:List Int}(h:RT .i32 21 w v l)(lo hi:Nat)(h1:lo<=hi)(h2:hi<=l.length):∃A cap,RT .i32 21 w (.slice A (hi-lo) cap) ((l.drop lo).take (hi-lo))/\
 ∀w',(Instr.sliceAt 189 v (some (.int .i64 (lo:Int))) (some (.int .i64 (hi:Int))) (some (.int .i64 (hi:Int)))).run prog w'=.ok (.slice A (hi-lo) cap) w':=by
 obtain ⟨A,cap,rfl,h3⟩:=h.form;refine ⟨_,_,h.cut lo hi h1 h2,fun w'=>?_⟩;rw[run_sliceAt_slice w' _ _ _ _ _ underlying189,run_slice_lhm w' _ A l.length cap underlying189 .i64 .i64 .i64 (lo:Int) (hi:Int) (hi:Int) AD AD AD AD];have hz:∀w,(Go.sizeOf (prog.elem 189)).run prog w=.ok 1 w:=fun w=>by simp[go_sem]
 rw[hz];simp[Result.andThen,sliced]
theorem tX(p:Pc)(f t:Nat)(h1:f<=t)(h2:t<=p.b.length):(p.fs.drop (Ap p.base (p.b.take f)).length).take ((Ap p.base (p.b.take t)).length-(Ap p.base (p.b.take f)).length)=(p.cut f t).fs:=by
 unfold Pc.fs Pc.cut;rw[gV p.b p.base f AD];have e:p.b.take t=p.b.take f++(p.b.drop f).take (t-f):=by
  rw[<-take_append_drop f (p.b.take t),List.take_take,min_eq_left h1,List.drop_take]
 have hl:(p.b.take f).length=f:=by rw[length_take];omega
 rw[e,B_,length_append,Nat.add_sub_cancel_left,hl,kp]
def Oq(p:Pc)(i c:Nat):Prop:=(Ap p.base (p.b.take i)).length=c/\i<=p.b.length
theorem UQ(p:Pc)(bv fv:Value)(w:World)(x y:Int)(f t:Nat)(hx:x=(f:Int))(hy:y=(t:Int))(h1:f<=t)(h2:t<=p.b.length)(hp:EA w bv fv p)(fp:p.Fair):
 Calls prog 211 #[GM bv fv p,.int .i64 x,.int .i64 y] w (IB (MC (p.cut f t)) w):=by
 subst hx;subst hy;obtain ⟨i,hi⟩:=BZ ((Ap p.base (p.b.take f)).length);obtain ⟨j,hj⟩:∃i,(Ap p.base (p.b.take t)).length=i:=⟨_,rfl⟩;have g1:Oq p f i:=⟨hi,AD⟩;have g2:Oq p t j:=⟨hj,h2⟩;have Q8:=tX p f t h1 h2;rw[hi,hj]at Q8;have Fr:i<=j/\j<=p.fs.length:=by
  have e:p.b.take t=p.b.take f++(p.b.drop f).take (t-f):=by
   rw[<-take_append_drop f (p.b.take t),List.take_take,min_eq_left h1,List.drop_take]
  have e1:=hj;rw[e,B_,length_append,hi]at e1;have e2:=congrArg length (Kx p.b p.base t);rw[length_append,hj]at e2;unfold Pc.fs;omega
 have HAh:Hid (∀(w':World) (i c:Nat),AA w w'->Oq p i c->Calls prog 191 #[GM bv fv p,.int .i64 (i:Int)] w' fun e Bg=>e=.returned (.int .i64 (c:Int))/\AA w' Bg):=
  AC (fun w' i c b h=>Ri p bv fv w' _ i c rfl h.1 (hp.later b) fp h.2)
 obtain ⟨A3,E7,m1,m2⟩:=bG hp.1 f t h1 h2;obtain ⟨A4,Kq,m3,m4⟩:=dR hp.2 i j Fr.1 Fr.2;rw[Q8]at m3;have HM:Hid (∀w',AA w w'->MC (p.cut f t) (GM (.slice A3 (t-f) E7) (.slice A4 (j-i) Kq) (p.cut f t)) w'):=AC (fun w' b=>⟨_,_,rfl,m1.later b,m3.later b⟩);obtain ⟨A,cap,rfl,-⟩:=hp.1.form;obtain ⟨A2,BP,rfl,-⟩:=hp.2.form;obtain ⟨f1,f2,f3,-⟩:=fp;have OY:(p.cut f t).base=p.base+(f:Int):=rfl;unfold GM at HM HAh ⊢;rw[OY]at HM;clear hi hj Q8 OY m1 m3 hp;generalize Oq p=G at *;generalize p.b.length=n at *;generalize p.fs.length=m at *;generalize p.base=b0 at *;go_enter func211,ntmps211;go_wp2_with fail;refine BW (fun wS=>AA w wS/\wS.heap[w.heap.size]?=some (.cells #[.slice A n cap,.slice A2 m BP,.int .i64 b0] 191)/\wS.heap[w.heap.size+1]?=some (.cells #[.slice none 0 0,.slice none 0 0,.int .i64 0] 191)) ⟨BQ,CG,CG⟩ ?_;rintro w1 ⟨AJ,AH,Aq⟩;have AG:=AJ;apply Ac (6) [] AY AY Ar
 case hstab=>
  intro e he v x y BE hv;simp only[mem_cons,not_mem_nil,or_false]at he
 case hlex=>
  intro U;have q0:=fun (v:BA (later U))=>AE (AB ⟨v,rfl⟩ (AB ⟨U,rfl⟩ AH))
  refine Ku ?_
  repeat (go_big_quiet_step ((go_at_call 191;exact EQ (HAh _ _ _ BQ (by assumption)))))
  exact wpQuiet_nil rfl
 case hown=>
  intro e he o ho;simp only[mem_cons,not_mem_nil,or_false]at he
 case htail=>
  intro g u Aw Az;have AL:AA w1 (later u):=⟨u,rfl⟩;generalize later u=w2 at *;clear u;clear Aw Az;refine DH ?_;have AR:=AG.trans AL;have AU:=AB AL AH;have BH:=AB AL Aq;go_wp2_with fail;apply Ac (17) [] AY AY Ar
  case hstab=>
   intro e he v x y BE hv;simp only[mem_cons,not_mem_nil,or_false]at he
  case hlex=>
   intro U;have q0:=fun (v:BA (later U))=>AE (AB ⟨v,rfl⟩ (AB ⟨U,rfl⟩ AU))
   refine Ku ?_
   repeat (go_big_quiet_step (fail))
   exact wpQuiet_nil rfl
  case hown=>
   intro e he o ho;simp only[mem_cons,not_mem_nil,or_false]at he
  case htail=>
   intro g u Aw Az;have AX:AA w2 (later u):=⟨u,rfl⟩;generalize later u=w3 at *;clear u;clear Aw Az;refine DH ?_;have An:=AR.trans AX;have BD:=AB AX BH;obtain ⟨Dm,FE⟩:=DX BD;go_wp2_with fail;have HA:AA w (((w3.setCell ⟨w.heap.size+1,0,none⟩ (.slice A3 (t-f) E7)).setCell ⟨w.heap.size+1,1,none⟩ (.slice A4 (j-i) Kq)).setCell ⟨w.heap.size+1,2,none⟩ (.int .i64 (b0+(f:Int)))):=BQ;refine bodyPost_ret (v:=.agg #[.slice A3 (t-f) E7,.slice A4 (j-i) Kq,.int .i64 (b0+(f:Int))]) (by simp[results,results211,go_sem, *]) rfl ?_;exact ⟨_,rfl,HA,HM _ HA⟩
def uZ(t:Tr × Pc)(v:Value)(w:World):Prop:=∃u bv fv,v=.tuple #[u,GM bv fv t.2]/\CU w t.1 u/\EA w bv fv t.2
theorem ke(a:Tr)(p:Pc)(v:Value)(w:World)(h:CU w (.node a p .nil) v):Calls prog 212 #[v] w (IB (uZ (a,p)) w):=by
 obtain ⟨k,lv,rv,bv,fv,rfl,hk,ha,hr,hp⟩:=h;obtain rfl:rv=.pointer none:=hr
 have HD:Hid (∀w',AA w w'->uZ (a,p) (.tuple #[lv,GM bv fv p]) w'):=AC (fun w' b=>⟨_,_,_,rfl,ha.later b,hp.later b⟩);obtain ⟨q,rfl⟩:=ha.ptr;obtain ⟨A,cap,rfl,-⟩:=hp.1.form;obtain ⟨A2,BP,rfl,-⟩:=hp.2.form;unfold FO at hk;unfold GM at HD;have l0:=As hk;have r0:=AE hk;clear ha hp;generalize p.b.length=n at *;generalize p.fs.length=m at *;generalize p.base=b0 at *;generalize (Tr.node a p .nil).len=y1 at *;generalize (Tr.node a p .nil).nf=y2 at *;generalize (Tr.node a p .nil).np=y3 at *;generalize (Tr.node a p .nil).Ad=y4 at *;go_enter func212,ntmps212;go_wp2_with fail;refine BW (fun wS=>AA w wS/\wS.heap[w.heap.size]?=some (.cells #[.slice none 0 0,.slice none 0 0,.int .i64 0] 191)/\wS.heap[k]?=some (.cells #[.pointer q,.pointer none,.slice A n cap,.slice A2 m BP,.int .i64 b0,.int .i64 (y1:Int),.int .i64 (y2:Int),.int .i64 (y3:Int),.int .i64 (y4:Int)] 193 (0,0))) ⟨BQ,CG,CG⟩ ?_;rintro w1 ⟨AJ,AH,Aq⟩;have AG:=AJ;clear r0 hk;apply Ac (9) [] AY AY Ar
 case hstab=>
  intro e he v x y BE hv;simp only[mem_cons,not_mem_nil,or_false]at he
 case hlex=>
  intro U;have q1:=fun (v:BA (later U))=>AE (AB ⟨v,rfl⟩ (AB ⟨U,rfl⟩ Aq))
  refine Ku ?_
  repeat (go_big_quiet_step (fail))
  exact wpQuiet_nil rfl
 case hown=>
  intro e he o ho;simp only[mem_cons,not_mem_nil,or_false]at he
 case htail=>
  intro g u Aw Az;have AL:AA w1 (later u):=⟨u,rfl⟩;generalize later u=w2 at *;clear u;clear Aw Az;refine DH ?_;have AR:=AG.trans AL;have AU:=AB AL AH;obtain ⟨BS,Dj⟩:=DX AU;go_wp2_with fail;have HA:AA w (((w2.setCell ⟨w.heap.size,0,none⟩ (.slice A n cap)).setCell ⟨w.heap.size,1,none⟩ (.slice A2 m BP)).setCell ⟨w.heap.size,2,none⟩ (.int .i64 b0)):=BQ;refine bodyPost_ret (v:=.tuple #[.pointer q,.agg #[.slice A n cap,.slice A2 m BP,.int .i64 b0]]) (by simp[results,results212,go_sem, *]) rfl ?_;exact ⟨_,rfl,HA,HD _ HA⟩
theorem fJ(a r:Tr)(p:Pc)(v:Value)(w:World)(t:Tr × Pc)(T:Tr)(hT:Tr.even a p t.1=T)(hr0:r≠.nil)(h:CU w (.node a p r) v)(ih:∀(u:Value) (w':World),CU w' r u->Calls prog 212 #[u] w' (IB (uZ t) w'))(hF:(Tr.node a p r).Fair)(ft:t.1.Fair)(hn:a.len+p.b.length+t.1.len<=90000):Calls prog 212 #[v] w (IB (uZ (T,t.2)) w):=by
 obtain ⟨k,lv,rv,bv,fv,rfl,hk,ha,hr,hp⟩:=h;obtain ⟨fa,fp,fr⟩:=hF;have HI:=AC (fun (w':World) (b:AA w w')=>ih rv w' (hr.later b));have HE:=AC (fun (w':World) (u:Value) (b:AA w w') (hu:CU w' t.1 u)=>Pb a t.1 p lv u bv fv w' T hT (ha.later b) hu (hp.later b) fa fp ft hn);have HD:Hid (∀w' u v5 u5,Cx T u w'->EA w' v5 u5 t.2->uZ (T,t.2) (.tuple #[u,GM v5 u5 t.2]) w'):=AC (fun w' u v5 u5 h1 h2=>⟨_,_,_,rfl,h1,h2⟩)
 cases r with
 |nil=>exact absurd rfl hr0
 |node rl rp rr=>
 obtain ⟨k2,q1,q2,q3,q4,rfl,-⟩:=hr;obtain ⟨q,rfl⟩:=ha.ptr;obtain ⟨A,cap,rfl,-⟩:=hp.1.form;obtain ⟨A2,BP,rfl,-⟩:=hp.2.form;unfold FO at hk;have l0:=As hk;have r0:=AE hk;unfold GM at HD HE;clear ha hp fa fp fr hn ih ft hT hr0;generalize p.b.length=n at *;generalize p.fs.length=m at *;generalize p.base=b0 at *;generalize (Tr.node a p (.node rl rp rr)).len=y1 at *;generalize (Tr.node a p (.node rl rp rr)).nf=y2 at *;generalize (Tr.node a p (.node rl rp rr)).np=y3 at *;generalize (Tr.node a p (.node rl rp rr)).Ad=y4 at *;go_enter func212,ntmps212;go_wp2_with fail;refine AQ (fun wS=>AA w wS/\wS.heap[w.heap.size]?=some (.cells #[.slice none 0 0,.slice none 0 0,.int .i64 0] 191)/\wS.heap[k]?=some (.cells #[.pointer q,.pointer (some ⟨k2,0,none⟩),.slice A n cap,.slice A2 m BP,.int .i64 b0,.int .i64 (y1:Int),.int .i64 (y2:Int),.int .i64 (y3:Int),.int .i64 (y4:Int)] 193 (0,0))) ⟨BQ,CG,CG⟩ ?_;rintro w1 ⟨AJ,AH,Aq⟩;have AG:=AJ;clear r0 hk;refine (HI _ AG).mono ?_;rintro e w2 ⟨_,rfl,AL,u5,v6,v7,rfl,hu,hq⟩;have HU:=AC (And.intro hu hq);obtain ⟨q5,rfl⟩:=hu.ptr;obtain ⟨A5,IA,rfl,-⟩:=hq.1.form;obtain ⟨A6,LZ,rfl,-⟩:=hq.2.form;unfold GM;have AR:=AG.trans AL;have AU:=AB AL AH;have BH:=AB AL Aq;clear hu hq;generalize t.2.b.length=n5 at *;generalize t.2.fs.length=n6 at *;generalize wL:t.2.base=b5 at *;clear wL;go_wp2_with fail;refine JL w2 (w2.heap.size) (.cells #[.slice A5 n5 IA,.slice A6 n6 LZ,.int .i64 b5] 191) ?_;intro w3 AX Er;have An:=AR.trans AX;have Ah:=AB AX AU;have BD:=AB AX BH;apply Wild.AP (12) [⟨9,36,undef,true,Cx T⟩,⟨11,2,undef,true,Cx T⟩] [⟨9,36,Cx T⟩,⟨11,2,Cx T⟩] rfl AY AY AY Ar AY
 case hstab=>
  intro c hc;rcases Cv hc with rfl|rfl
  ·intro v x y BE hv;exact Bi BE hv
  ·intro v x y BE hv;exact Bi BE hv
 case hfix=>
  intro c hc;rcases Cv hc with rfl|rfl
  ·exact .inl rfl
  ·exact .inl rfl
 case hlex=>
  intro U hU;have q1:=AE (AB hU BD);have q2:=AE (AB hU Er);refine Hj ?_
  repeat (go_big_quiet_step (fail))
  exact wpQuiet_nil rfl
 case hstep=>
  intro j hj o ho;have CQ:j=0\/j=1:=by simp at hj;omega
  rcases CQ with rfl|rfl
  ·cases ho;refine ⟨rfl,fun g x hx hp=>?_⟩;clear hp;refine Bp ?_;refine AO ?_ (Wild.Ai (HE _ _ (An.trans hx) (HU.out.1.later (AX.trans hx))));simp[go_sem,execOp]
  ·cases ho;refine ⟨rfl,fun g x hx hp=>?_⟩;have vQ:(Cx T) (g 9) x:=hp _ (mem_of_getElem? (i:=0) rfl) (List.contains_iff_mem.1 AY);clear hp;refine Bp ?_;refine Wild.Dv (v:=g 9) ?_ vQ;simp[go_sem,execOp]
 case htail=>
  intro g u Aw Az;have Ao:AA w3 (later u):=⟨u,rfl⟩;generalize later u=w4 at *;clear u Az;obtain ⟨rk,-⟩:=Aw _ (mem_of_getElem? (i:=0) rfl);(try dsimp only at rk)
  obtain ⟨pY,-⟩:=Aw _ (mem_of_getElem? (i:=1) rfl);(try dsimp only at pY)
  clear Aw;refine DH ?_;generalize g 9=v36 at *;generalize g 11=v2 at *;have Bl:=An.trans Ao;have BK:=AB Ao Ah;obtain ⟨Dz,FK⟩:=DX BK;go_wp2_with fail;have HA:AA w (((w4.setCell ⟨w.heap.size,0,none⟩ (.slice A5 n5 IA)).setCell ⟨w.heap.size,1,none⟩ (.slice A6 n6 LZ)).setCell ⟨w.heap.size,2,none⟩ (.int .i64 b5)):=BQ;refine bodyPost_ret (v:=.tuple #[v2,.agg #[.slice A5 n5 IA,.slice A6 n6 LZ,.int .i64 b5]]) (by simp[results,results212,go_sem, *]) rfl ?_;refine ⟨_,rfl,HA,?_⟩;have h1:=CU.oZ (i:=0) (j:=1) (k:=2) (x:=.slice A5 n5 IA) (y:=.slice A6 n6 LZ) (z:=.int .i64 b5) BK (by decide) (by decide) (by decide) pY;have h2:=EA.oZ (i:=0) (j:=1) (k:=2) (x:=.slice A5 n5 IA) (y:=.slice A6 n6 LZ) (z:=.int .i64 b5) BK (by decide) (by decide) (HU.out.2.later (AX.trans Ao));have h3:=HD _ _ _ _ h1 h2;exact h3
theorem WO:∀(t:Tr) (v:Value) (w:World),t≠.nil->CU w t v->t.Fair->t.len<=90000->Calls prog 212 #[v] w (IB (uZ (Tr.last t)) w)
 |.nil,_,_,h,_,_,_=>absurd rfl h
 |.node a p .nil,v,w,_,h,_,_=>ke a p v w h
 |.node a p (.node b q c),v,w,_,h,hF,hn=>by
  have hl:=Tr.Vk (t:=.node b q c) Ar;have Fx:a.len+p.b.length+(Tr.node b q c).len<=90000:=hn;exact fJ a (.node b q c) p v w (Tr.last (.node b q c)) _ rfl Ar h (fun u w' hu=>WO (.node b q c) u w' Ar hu hF.2.2 AD) hF (Tr.Sl Ar hF.2.2).1 AD
theorem gO(r:Tr)(rv:Value)(w:World)(h:CU w r rv):Calls prog 168 #[.pointer none,rv] w (IB (Cx r) w):=by
 have H:=AC h;clear h;go_enter func168,ntmps168;go_wp2_with fail;go_ret;exact ⟨_,rfl,AA.refl _,H.out⟩
theorem dg(l r:Tr)(lv rv:Value)(w:World)(h0:l≠.nil)(t:Tr)(ht:Tr.join (Tr.last l).1 (Tr.last l).2 r=t)(hl:CU w l lv)(hr:CU w r rv)(fl:l.Fair)(fr:r.Fair)(hn:l.len+r.len<=90000):
 Calls prog 168 #[lv,rv] w (IB (Cx t) w):=by
 have hll:=Tr.Vk h0;obtain ⟨f1,f2⟩:=Tr.Sl h0 fl;have HI:=AC (fun (w':World) (b:AA w w')=>WO l lv w' h0 (hl.later b) fl AD);have HJ:=AC (fun (w':World) (u bv fv:Value) (b:AA w w') (hu:CU w' (Tr.last l).1 u) (hq:EA w' bv fv (Tr.last l).2)=>G8 (Tr.last l).1 r (Tr.last l).2 u rv bv fv w' t ht hu (hr.later b) hq f1 f2 fr AD);have hp:∃k,lv=.pointer (some ⟨k,0,none⟩):=by
  cases l with
  |nil=>exact absurd rfl h0
  |node a p b=>
   obtain ⟨k,_,_,_,_,h1,_⟩:=hl;exact ⟨k,h1⟩
 obtain ⟨k,rfl⟩:=hp;generalize Tr.last l=lt at *;unfold GM at HJ;clear hl hr fl fr hn hll f1 f2 ht h0;go_enter func168,ntmps168;go_wp2_with fail;refine (HI _ (AA.refl _)).mono ?_;rintro e w2 ⟨_,rfl,AL,u5,v6,v7,rfl,hu,hq⟩;have HU:=AC (And.intro hu hq);obtain ⟨A5,IA,rfl,-⟩:=hq.1.form;obtain ⟨A6,LZ,rfl,-⟩:=hq.2.form;have HB:=AC AL;unfold GM;clear hu hq AL;generalize lt.2.b.length=n5 at *;generalize lt.2.fs.length=n6 at *;generalize lt.2.base=b5 at *;go_wp2_with fail;refine (HJ _ _ _ _ ?_ (HU.out.1.later ?_) (HU.out.2.later ?_)).mono ?_
 ·exact HB.out.trans BQ
 ·exact BQ
 ·exact BQ
 rintro e w3 ⟨u,rfl,b3,hu⟩;have HU2:Hid (AA w w3/\Cx t u w3):=AC (And.intro (HB.out.trans (AA.trans BQ b3)) hu);clear b3 hu;go_wp2_with fail;go_ret;exact ⟨_,rfl,HU2.out.1,HU2.out.2⟩
theorem ba(l r:Tr)(lv rv:Value)(w:World)(hl:CU w l lv)(hr:CU w r rv)(fl:l.Fair)(fr:r.Fair)(hn:l.len+r.len<=90000):
 Calls prog 168 #[lv,rv] w (IB (Cx (Tr.meet l r)) w):=by
 cases l with
 |nil=>
  obtain rfl:lv=.pointer none:=hl
  exact gO r rv w hr
 |node a p b=>exact dg (.node a p b) r lv rv w Ar _ rfl hl hr fl fr hn
def RH(t:Tr × Tr)(v:Value)(w:World):Prop:=∃u1 u2,v=.tuple #[u1,u2]/\CU w t.1 u1/\CU w t.2 u2
theorem dX(i:Int)(w:World):Calls prog 167 #[.pointer none,.int .i64 i] w (IB (RH (.nil,.nil)) w):=by
 go_enter func167,ntmps167;go_wp2_with fail;refine bodyPost_ret (v:=.tuple #[.pointer none,.pointer none]) (by simp[results,results167,go_sem]) rfl ?_;exact ⟨_,rfl,AA.refl _,_,_,rfl,rfl,rfl⟩
theorem Zd(l r:Tr)(p:Pc)(v:Value)(w:World)(i:Nat)(s:Tr × Tr)(t:Tr)(ht:Tr.join s.2 p r=t)(h:CU w (.node l p r) v)(hF:(Tr.node l p r).Fair)(hn:(Tr.node l p r).len<=90000)(hi:i<=l.len)
 (ih:∀(u:Value) (w':World),CU w' l u->Calls prog 167 #[u,.int .i64 (i:Int)] w' (IB (RH s) w')) (f2:s.2.Fair) (hs:s.2.len<=l.len):
 Calls prog 167 #[v,.int .i64 (i:Int)] w (IB (RH (s.1,t)) w):=by
 have HN:=AC (fun (w':World) (b:AA w w')=>Ih l r p v w' (h.later b) hn);obtain ⟨k,lv,rv,bv,fv,rfl,hk,hl,hr,hp⟩:=h;obtain ⟨fl,fp,fr⟩:=hF;have Fx:l.len+p.b.length+r.len<=90000:=hn;have HI:=AC (fun (w':World) (b:AA w w')=>ih lv w' (hl.later b));have HJ:=AC (fun (w':World) (u:Value) (b:AA w w') (hu:CU w' s.2 u)=>G8 s.2 r p u rv bv fv w' t ht hu (hr.later b) (hp.later b) f2 fp fr AD);have HD:Hid (∀w' u1 u2,CU w' s.1 u1->Cx t u2 w'->RH (s.1,t) (.tuple #[u1,u2]) w'):=AC (fun w' u1 u2 h1 h2=>⟨_,_,rfl,h1,h2⟩);have HK:=AC hk;obtain ⟨A,cap,rfl,-⟩:=hp.1.form;obtain ⟨A2,BP,rfl,-⟩:=hp.2.form;have d1:(i:Int)<=(l.len:Int):=AD;have r0:=AE hk;unfold FO at HK r0;unfold GM at HJ;clear hl hr hp hk fl fp fr hn Fx ih ht f2 hs hi;generalize p.b.length=n at *;generalize p.fs.length=m at *;generalize p.base=b0 at *;generalize l.len=e1 at *;go_enter func167,ntmps167;go_wp2_with fail;refine (HN _ (AA.refl w)).mono ?_;rintro e w1 ⟨rfl,AJ⟩;have AG:=AJ;have AH:=AB AJ HK.out;have B7:=AE AH;clear r0;go_wp2_with fail;refine (HI _ AG).mono ?_;rintro e w2 ⟨_,rfl,AL,u1,u2,rfl,h1,h2⟩;have AR:=AG.trans AL;have AU:=AB AL AH;(try clear B7);have HU:=AC (And.intro h1 h2);clear h1 h2;go_wp2_with fail;apply Wild.AP (12) [⟨10,39,undef,true,Cx t⟩] [⟨10,39,Cx t⟩] rfl AY AY AY Ar AY
 case hstab=>
  intro c hc;rcases Cv hc with rfl
  ·intro v x y BE hv;exact Bi BE hv
 case hfix=>
  intro c hc;rcases Cv hc with rfl
  ·exact .inl rfl
 case hlex=>
  intro U hU;have q0:=AE (AB hU AU);refine Hj ?_
  repeat (go_big_quiet_step (fail))
  exact wpQuiet_nil rfl
 case hstep=>
  intro j hj o ho;have CQ:j=0:=by simp at hj;omega
  rcases CQ with rfl
  ·cases ho;refine ⟨rfl,fun g x hx hp=>?_⟩;clear hp;refine Bp ?_;refine AO ?_ (Wild.Ai (HJ _ _ (AR.trans hx) (HU.out.2.later hx)));simp[go_sem,execOp]
 case htail=>
  intro g u Aw Az;have AX:AA w2 (later u):=⟨u,rfl⟩;generalize later u=w3 at *;clear u Az;obtain ⟨kv,-⟩:=Aw _ (mem_of_getElem? (i:=0) rfl);(try dsimp only at kv)
  clear Aw;refine DH ?_;generalize g 10=v39 at *;have An:=AR.trans AX;go_wp2_with fail;refine bodyPost_ret (v:=.tuple #[u1,v39]) (by simp[results,results167,go_sem]) rfl ?_;exact ⟨_,rfl,An,HD _ _ _ (HU.out.1.later AX) kv⟩
theorem VO(l r:Tr)(p:Pc)(v:Value)(w:World)(i:Nat)(s:Tr × Tr)(t:Tr)(ht:Tr.join l p s.1=t)(h:CU w (.node l p r) v)(hF:(Tr.node l p r).Fair)(hn:(Tr.node l p r).len<=90000)(hi:¬i<=l.len)(fD:l.len+p.b.length<=i)(hi3:i<=90000)
 (ih:∀(x:Int) (u:Value) (w':World),x=((i-(l.len+p.b.length):Nat):Int)->CU w' r u->Calls prog 167 #[u,.int .i64 x] w' (IB (RH s) w')) (f2:s.1.Fair) (hs:s.1.len<=r.len):
 Calls prog 167 #[v,.int .i64 (i:Int)] w (IB (RH (t,s.2)) w):=by
 have HN:=AC (fun (w':World) (b:AA w w')=>Ih l r p v w' (h.later b) hn);obtain ⟨k,lv,rv,bv,fv,rfl,hk,hl,hr,hp⟩:=h;obtain ⟨fl,fp,fr⟩:=hF;have Fx:l.len+p.b.length+r.len<=90000:=hn;have HI:=AC (fun (w':World) (b:AA w w')=>ih ((i:Int)-((l.len:Int)+(p.b.length:Int))) rv w' AD (hr.later b));have HJ:=AC (fun (w':World) (u:Value) (b:AA w w') (hu:CU w' s.1 u)=>G8 l s.1 p lv u bv fv w' t ht (hl.later b) hu (hp.later b) fl fp f2 AD);have HD:Hid (∀w' u1 u2,Cx t u1 w'->CU w' s.2 u2->RH (t,s.2) (.tuple #[u1,u2]) w'):=AC (fun w' u1 u2 h1 h2=>⟨_,_,rfl,h1,h2⟩);have HK:=AC hk;obtain ⟨A,cap,rfl,-⟩:=hp.1.form;obtain ⟨A2,BP,rfl,-⟩:=hp.2.form;have d1:decide (i<=l.len)=false:=decide_eq_false hi;have d3:(l.len:Int)+(p.b.length:Int)<=(i:Int):=AD;have b1:l.len<=90000:=AD;have b2:p.b.length<=90000:=AD;have r0:=AE hk;unfold FO at HK r0;unfold GM at HJ;clear hl hr hp hk fl fp fr hn Fx ih ht f2 hs hi fD;generalize p.b.length=n at *;generalize p.fs.length=m at *;generalize p.base=b0 at *;generalize l.len=e1 at *;go_enter func167,ntmps167;go_wp2_with fail;refine (HN _ (AA.refl w)).mono ?_;rintro e w1 ⟨rfl,AJ⟩;have AG:=AJ;have AH:=AB AJ HK.out;have B7:=AE AH;clear r0;go_wp2_with fail;refine (HI _ AG).mono ?_;rintro e w2 ⟨_,rfl,AL,u1,u2,rfl,h1,h2⟩;have AR:=AG.trans AL;have AU:=AB AL AH;(try clear B7);have HU:=AC (And.intro h1 h2);clear h1 h2;go_wp2_with fail;refine Ol _ 8 4 u1 _ _ AY rfl rfl AY rfl (by simp only[List.set_cons_succ,List.set_cons_zero];exact rfl) ?_;apply Wild.Us (12) [⟨9,64,undef,true,Cx t⟩,⟨11,4,undef,true,Cx t⟩] [⟨9,64,Cx t⟩,⟨11,4,Cx t⟩] rfl AY AY AY Ar AY
 case hstab=>
  intro c hc;rcases Cv hc with rfl|rfl
  ·intro v x y BE hv;exact Bi BE hv
  ·intro v x y BE hv;exact Bi BE hv
 case hfix=>
  intro c hc;rcases Cv hc with rfl|rfl
  ·exact .inl rfl
  ·exact .inl rfl
 case hlex=>
  intro U hU;have q0:=AE (AB hU AU);refine Hj ?_
  repeat (go_big_quiet_step (fail))
  exact wpQuiet_nil rfl
 case hstep=>
  intro j hj o ho;have CQ:j=0\/j=1:=by simp at hj;omega
  rcases CQ with rfl|rfl
  ·cases ho;refine ⟨rfl,fun g x hx hp=>?_⟩;clear hp;refine Bp ?_;refine AO ?_ (Wild.Ai (HJ _ _ (AR.trans hx) (HU.out.1.later hx)));simp[go_sem,execOp]
  ·cases ho;refine ⟨rfl,fun g x hx hp=>?_⟩;have p64:(Cx t) (g 9) x:=hp _ (mem_of_getElem? (i:=0) rfl) (List.contains_iff_mem.1 AY);clear hp;refine Bp ?_;refine Wild.Dv (v:=g 9) ?_ p64;simp[go_sem,execOp]
 case htail=>
  intro g u Aw Az;have AX:AA w2 (later u):=⟨u,rfl⟩;generalize later u=w3 at *;clear u Az;obtain ⟨rF,-⟩:=Aw _ (mem_of_getElem? (i:=0) rfl);(try dsimp only at rF)
  obtain ⟨KY,-⟩:=Aw _ (mem_of_getElem? (i:=1) rfl);(try dsimp only at KY)
  clear Aw;refine DH ?_;generalize g 9=v64 at *;generalize g 11=v4 at *;have An:=AR.trans AX;go_wp2_with fail;refine bodyPost_ret (v:=.tuple #[v4,u2]) (by simp[results,results167,go_sem]) rfl ?_;exact ⟨_,rfl,An,HD _ _ _ KY (HU.out.2.later AX)⟩
theorem fG(l r:Tr)(p:Pc)(v:Value)(w:World)(i d:Nat)(t1 t2:Tr)(ht1:Tr.join l (p.cut 0 d) .nil=t1)(nH:Tr.join .nil (p.cut d p.b.length) r=t2)(h:CU w (.node l p r) v)(hF:(Tr.node l p r).Fair)(hn:(Tr.node l p r).len<=90000)(hi:i=l.len+d)(hd:0<d)(fW:d<p.b.length):
 Calls prog 167 #[v,.int .i64 (i:Int)] w (IB (RH (t1,t2)) w):=by
 have HN:=AC (fun (w':World) (b:AA w w')=>Ih l r p v w' (h.later b) hn);obtain ⟨k,lv,rv,bv,fv,rfl,hk,hl,hr,hp⟩:=h;obtain ⟨fl,fp,fr⟩:=hF;have Fx:l.len+p.b.length+r.len<=90000:=hn;have g1:(p.cut 0 d).Fair:=fp.cut hd AD;have g2:(p.cut d p.b.length).Fair:=fp.cut fW (Nat.le_refl _);have k1:(p.cut 0 d).b.length<=p.b.length:=by unfold Pc.cut;simp only[length_take,length_drop];omega
 have k2:(p.cut d p.b.length).b.length<=p.b.length:=by unfold Pc.cut;simp only[length_take,length_drop];omega
 have Q6:=AC (fun (w':World) (b:AA w w')=>UQ p bv fv w' 0 ((i:Int)-(l.len:Int)) 0 d rfl AD AD AD (hp.later b) fp);have Hw:=AC (fun (w':World) (b:AA w w')=>UQ p bv fv w' ((i:Int)-(l.len:Int)) ((l.len:Int)+(p.b.length:Int)-(l.len:Int)) d p.b.length AD AD AD (Nat.le_refl _) (hp.later b) fp);have HJ1:Hid (∀(w':World) (u:Value),AA w w'->MC (p.cut 0 d) u w'->Calls prog 169 #[lv,u,.pointer none] w' (IB (Cx t1) w')):=AC (fun w' u b hu=>by
  obtain ⟨x,y,rfl,hu⟩:=hu;exact G8 l .nil _ lv (.pointer none) x y w' t1 ht1 (hl.later b) rfl hu fl g1 trivial (by simp only[Tr.len];omega))
 have HJ2:Hid (∀(w':World) (u:Value),AA w w'->MC (p.cut d p.b.length) u w'->Calls prog 169 #[.pointer none,u,rv] w' (IB (Cx t2) w')):=AC (fun w' u b hu=>by
  obtain ⟨x,y,rfl,hu⟩:=hu;exact G8 .nil r _ (.pointer none) rv x y w' t2 nH rfl (hr.later b) hu trivial g2 fr (by simp only[Tr.len];omega))
 have HD:Hid (∀w' u1 u2,Cx t1 u1 w'->Cx t2 u2 w'->RH (t1,t2) (.tuple #[u1,u2]) w'):=AC (fun w' u1 u2 h1 h2=>⟨_,_,rfl,h1,h2⟩);have HK:=AC hk;obtain ⟨A,cap,rfl,-⟩:=hp.1.form;obtain ⟨A2,BP,rfl,-⟩:=hp.2.form;have d1:decide (i<=l.len)=false:=decide_eq_false AD;have d3:decide ((l.len:Int)+(p.b.length:Int)<=(i:Int))=false:=decide_eq_false AD;have b1:l.len<=90000:=AD;have b2:p.b.length<=90000:=AD;have b3:i<=180000:=AD;have b4:l.len<=i:=AD;have r0:=AE hk;unfold FO at HK r0;unfold GM at Q6 Hw;clear hl hr hp hk fl fp fr hn Fx ht1 nH hi hd fW k1 k2 g1 g2;generalize p.cut 0 d=q1 at *;generalize p.cut d p.b.length=q2 at *;generalize p.b.length=n at *;generalize p.fs.length=m at *;generalize p.base=b0 at *;generalize l.len=e1 at *;go_enter func167,ntmps167;go_wp2_with fail;refine (HN _ (AA.refl w)).mono ?_;rintro e w1 ⟨rfl,AJ⟩;have AG:=AJ;have AH:=AB AJ HK.out;clear r0;go_wp2_with fail;apply Wild.AP (26) [⟨9,78,undef,true,MC q1⟩,⟨10,79,undef,true,Cx t1⟩,⟨19,88,undef,true,MC q2⟩,⟨24,93,undef,true,Cx t2⟩,⟨25,4,undef,true,Cx t1⟩] [⟨9,78,MC q1⟩,⟨10,79,Cx t1⟩,⟨19,88,MC q2⟩,⟨24,93,Cx t2⟩,⟨25,4,Cx t1⟩] rfl AY AY AY Ar AY
 case hstab=>
  intro c hc;rcases Cv hc with rfl|rfl|rfl|rfl|rfl
  ·intro v x y BE hv;exact Pg BE hv
  ·intro v x y BE hv;exact Bi BE hv
  ·intro v x y BE hv;exact Pg BE hv
  ·intro v x y BE hv;exact Bi BE hv
  ·intro v x y BE hv;exact Bi BE hv
 case hfix=>
  intro c hc;rcases Cv hc with rfl|rfl|rfl|rfl|rfl
  ·exact .inl rfl
  ·exact .inl rfl
  ·exact .inl rfl
  ·exact .inl rfl
  ·exact .inl rfl
 case hlex=>
  intro U hU;have q0:=AE (AB hU AH);refine Hj ?_
  repeat (go_big_quiet_step (fail))
  exact wpQuiet_nil rfl
 case hstep=>
  intro j hj o ho;have CQ:j=0\/j=1\/j=2\/j=3\/j=4:=by simp at hj;omega
  rcases CQ with rfl|rfl|rfl|rfl|rfl
  ·cases ho;refine ⟨rfl,fun g x hx hp=>?_⟩;clear hp;refine Bp ?_;refine AO ?_ (Wild.Ai (Q6 _ (AG.trans hx)));simp[go_sem,execOp]
  ·cases ho;refine ⟨rfl,fun g x hx hp=>?_⟩;have p78:(MC q1) (g 9) x:=hp _ (mem_of_getElem? (i:=0) rfl) (List.contains_iff_mem.1 AY);clear hp;refine Bp ?_;refine AO ?_ (Wild.Ai (HJ1 _ _ (AG.trans hx) p78));simp[go_sem,execOp]
  ·cases ho;refine ⟨rfl,fun g x hx hp=>?_⟩;clear hp;refine Bp ?_;refine AO ?_ (Wild.Ai (Hw _ (AG.trans hx)));simp[go_sem,execOp]
  ·cases ho;refine ⟨rfl,fun g x hx hp=>?_⟩;have p88:(MC q2) (g 19) x:=hp _ (mem_of_getElem? (i:=2) rfl) (List.contains_iff_mem.1 AY);clear hp;refine Bp ?_;refine AO ?_ (Wild.Ai (HJ2 _ _ (AG.trans hx) p88));simp[go_sem,execOp]
  ·cases ho;refine ⟨rfl,fun g x hx hp=>?_⟩;have p79:(Cx t1) (g 10) x:=hp _ (mem_of_getElem? (i:=1) rfl) (List.contains_iff_mem.1 AY);clear hp;refine Bp ?_;refine Wild.Dv (v:=g 10) ?_ p79;simp[go_sem,execOp]
 case htail=>
  intro g u Aw Az;have AX:AA w1 (later u):=⟨u,rfl⟩;generalize later u=w3 at *;clear u Az;obtain ⟨rd,-⟩:=Aw _ (mem_of_getElem? (i:=0) rfl);(try dsimp only at rd)
  obtain ⟨sd,-⟩:=Aw _ (mem_of_getElem? (i:=1) rfl);(try dsimp only at sd)
  obtain ⟨sQ,-⟩:=Aw _ (mem_of_getElem? (i:=2) rfl);(try dsimp only at sQ)
  obtain ⟨jK,-⟩:=Aw _ (mem_of_getElem? (i:=3) rfl);(try dsimp only at jK)
  obtain ⟨KY,-⟩:=Aw _ (mem_of_getElem? (i:=4) rfl);(try dsimp only at KY)
  clear Aw;refine DH ?_;generalize g 9=v78 at *;generalize g 10=v79 at *;generalize g 19=v88 at *;generalize g 24=v93 at *;generalize g 25=v4 at *;have An:=AG.trans AX;go_wp2_with fail;refine bodyPost_ret (v:=.tuple #[v4,v93]) (by simp[results,results167,go_sem]) rfl ?_;exact ⟨_,rfl,An,HD _ _ _ KY jK⟩
theorem Hp:∀(t:Tr) (i:Nat) (x:Int) (v:Value) (w:World),x=(i:Int)->CU w t v->t.Fair->t.len<=90000->i<=90000->Calls prog 167 #[v,.int .i64 x] w (IB (RH (Tr.split t i)) w)
 |.nil,i,x,v,w,hx,h,_,_,_=>by
  obtain rfl:v=.pointer none:=h
  exact dX x w
 |.node l p r,i,x,v,w,hx,h,hF,hn,hi=>by
  subst hx;have Fx:l.len+p.b.length+r.len<=90000:=hn;unfold Tr.split;split
  ·rename_i c1
   have hl:=(Tr.LI l i c1).2;exact Zd l r p v w i (Tr.split l i) _ rfl h hF hn c1 (fun u w' hu=>Hp l i _ u w' rfl hu hF.1 AD hi) (Tr.Ck l i hF.1).2 AD
  ·rename_i c1
   split
   ·rename_i c2
    have hb:=(Tr.GP r (i-(l.len+p.b.length))).1;have hl:=congrArg length hb;rw[length_take,Tr.Bv,Tr.Bv]at hl;exact VO l r p v w i (Tr.split r (i-(l.len+p.b.length))) _ rfl h hF hn c1 c2 hi (fun x u w' hx hu=>Hp r _ x u w' hx hu hF.2.2 AD AD) (Tr.Ck r _ hF.2.2).1 AD
   ·rename_i c2
    exact fG l r p v w i (i-l.len) _ _ rfl rfl h hF hn AD AD AD
end
end Go.Proofs.YtamhnffokoejjaaGreatDoor
