import Derived.RangeFuncNested
import Derived.RangeFuncBound
import Derived.OwnWalkIn
import Derived.LoopNIn
import Derived.LoopIn
import Derived.Shelf.RegionOpen
import Derived.Test.YtamhnffokoejjaaGreatDoorKwba
set_option linter.all false
set_option maxHeartbeats 3200000
set_option maxRecDepth 100000
namespace Go.Proofs.YtamhnffokoejjaaGreatDoor
open List(replicate nil_append length_take ext_getElem? getElem?_set mem_cons not_mem_nil)
open Nat(le_trans)
open Go.Proofs.Tryz
open Go.RowKit Go.Shelf
section
attribute [local go_sem] Oper.semAt_some
variable {B:Nat}
theorem kD(A:Option Addr)(n cap:Nat)(h1:n<=cap)(h0:0<n)(w:World):(Instr.sliceAt 84 (.slice A n cap) (some (.int .i64 0)) (some (.int .i64 (n:Int))) (some (.int .i64 (n:Int)))).run prog w=.ok (.slice A n n) w:=by
 have eA:(if n=0 then A else A.map (fun x=>x.add 0))=A:=by
  split
  ·rfl
  ·cases A with
   |none=>rfl
   |some a=>simp[Addr.add]
 rw[run_sliceAt_slice w _ _ _ _ _ B8.L_,run_slice_lhm w _ A n cap B8.L_ .i64 .i64 .i64 0 (n:Int) (n:Int) AD AD AD AD];rw[B8.size];simp only[Result.andThen,sliced,Int.toNat_natCast,Int.toNat_zero,Nat.sub_zero,Nat.zero_mul];rw[eA]
theorem cL(A:Option Addr)(n cap:Nat)(h1:n<=cap)(w:World):(Instr.sliceAt 84 (.slice A n cap) (some (.int .i64 0)) none none).run prog w=.ok (.slice A n cap) w:=by
 have eA:(if cap=0 then A else A.map (fun x=>x.add 0))=A:=by
  split
  ·rfl
  ·cases A with
   |none=>rfl
   |some a=>simp[Addr.add]
 rw[run_sliceAt_slice w _ _ _ _ _ B8.L_,run_slice_l w _ A n cap B8.L_ .i64 0 AD AD];rw[B8.size];simp only[Result.andThen,sliced,Int.toNat_zero,Nat.sub_zero,Nat.zero_mul];rw[eA]
def bh(Bs Bn:Nat)(W W':World):Prop:=W'.heap[Bs]?=W.heap[Bs]?/\W'.heap[Bn]?=W.heap[Bn]?
theorem bh.refl(Bs Bn:Nat)(W:World):bh Bs Bn W W:=⟨rfl,rfl⟩
theorem bh.trans{Bs Bn:Nat}{X Y Z:World}(h:bh Bs Bn X Y)(k:bh Bs Bn Y Z):bh Bs Bn X Z:=⟨k.1.trans h.1,k.2.trans h.2⟩
theorem bh.turn{Bs Bn:Nat}{w:World}(h1:Bs<w.heap.size)(h2:Bn<w.heap.size)(W:World)(l:Nat)(o o':Obj)(hl:w.heap.size<=l)(h:W.heap[l]?=some o)(c1:o.isCells=false)(c2:o.isWalk=false):bh Bs Bn W (W.putObj l o'):=
 ⟨World.putObj_heap_other AD,World.putObj_heap_other AD⟩
theorem ek(A:Option Addr)(n cap:Nat)(w:World):Calls prog 180 #[.slice A n cap,.int .i64 8388608] w fun e w'=>e=.returned (.func (.func 226) #[] #[.pointer (some ⟨w.heap.size,0,none⟩),.pointer (some ⟨w.heap.size+1,0,none⟩)])/\w'=(w.alloc (.cells #[.slice A n cap] 84)).alloc (.cells #[.int .i64 8388608] 3):=by
 go_enter func180,ntmps180;go_wp2_with fail;go_ret;exact ⟨rfl,rfl⟩
theorem UG:∀args w,(callFunc 226 args).run prog w=.ok (.enter 226 args) w:=enters_of func226 AY rfl
theorem kr(n:Nat)(hn:1<=n)(l Bs Bn:Nat)(A:Option Addr)(cap m:Nat)(hm:m<=45000)(hc:m<=cap)(J Jx:List Unit->World->Prop)
 (hY:∀pre x W,J pre W->pre.length<1->YieldAt Fence.wide (n-1) prog l #[.slice A m m] W fun e W'=>
  (e=.returned (.bool true)/\J (pre++[x]) W'/\bh Bs Bn W W')\/(e=.returned (.bool false)/\Jx (pre++[x]) W'))
 (W:World) (mu:W.cell? ⟨Bs,0,none⟩=some (.slice A m cap)) (yd:W.cell? ⟨Bn,0,none⟩=some (.int .i64 8388608)) (h0:J [] W) (hd:J [] W.drew):
 CallsIn Fence.wide n prog 226 #[.func (.yield l) #[] #[],.pointer (some ⟨Bs,0,none⟩),.pointer (some ⟨Bn,0,none⟩)] W fun e W'=>(∃v,e=.returned v)/\
  ((∃ys,ys=replicate (min m 1) ()/\J ys W')\/(∃pre,True/\Jx pre W')):=by
 refine callsIn_of_wp func226 rfl trivial ?_ rfl;simp only[ntmps226,List.size_toArray,List.length_cons,List.length_nil,Nat.reduceAdd,Nat.reduceSub,Array.replicate_succ,Array.replicate_zero,List.push_toArray,List.append_toArray,nil_append,List.cons_append];rcases Nat.eq_zero_or_pos m with hz|QW
 ·subst hz
  gi_wp2
  refine wpIn_loop_rounds 1 ?_;rw[roundsIn_succ]
  gi_wp2
  go_end0
  exact ⟨⟨_,rfl⟩,.inl ⟨[],rfl,h0⟩⟩
 ·obtain ⟨fn,tmps,assign,body,hy,hRR⟩:=hY [] () W.drew hd Ar;have HRR:=AC hRR;have HJ:Hid (replicate (min m 1) ()=[]++[()]):=AC (by rw[Nat.min_eq_right AD];rfl);have s1:=kD A m cap hc QW;have s2:=cL A m cap hc;have vp:∀(w:World) (ts:Array TypeId) (ty:TypeId),(Builtin.min_ ts ty #[.int .i64 8388608,.int .i64 (m:Int)]).run prog w=.ok (.int .i64 (m:Int)) w:=fun w ts ty=>by rw[Kh,Int.min_eq_right AD]
  have hmo:prog.follows Departure.mixedOrders=true:=AY;clear hY hRR h0
  gi_wp2
  refine wpIn_loop_rounds 2 ?_;rw[roundsIn_succ]
  gi_wp2
  gi_region_o
  gi_wp2
  refine HRR.out.mono ?_;rintro e W3 (⟨rfl,hJ3,O4⟩|⟨rfl,Y12⟩)
  ·have c1:W3.cell? ⟨Bs,0,none⟩=some (.slice A m cap):=(World.cell?_of_block (w:=W.drew) O4.1).trans mu;have c2:W3.cell? ⟨Bn,0,none⟩=some (.int .i64 8388608):=(World.cell?_of_block (w:=W.drew) O4.2).trans yd
   gi_wp2
   rw[roundsIn_succ]
   gi_wp2
   go_end0
   exact ⟨⟨_,rfl⟩,.inl ⟨_,HJ.out.symm,hJ3⟩⟩
  ·gi_wp2
   refine bodyPost_ret (results_none rfl _ _ _) rfl ?_;exact ⟨⟨_,rfl⟩,.inr ⟨_,trivial,Y12⟩⟩
theorem VK(n:Nat)(hn:1<=n)(Bs Bn:Nat)(A:Option Addr)(cap m:Nat)(hm:m<=45000)(hc:m<=cap)(w:World)(mu:w.cell? ⟨Bs,0,none⟩=some (.slice A m cap))(yd:w.cell? ⟨Bn,0,none⟩=some (.int .i64 8388608)):
 SeqStopsK Fence.wide n prog 226 #[.pointer (some ⟨Bs,0,none⟩),.pointer (some ⟨Bn,0,none⟩)] (fun (_:Unit)=> #[.slice A m m]) (bh Bs Bn) (fun ys=>ys=replicate (min m 1) ()) (fun _=>True) 1 w:=fun l J Jx W hW hJ _ hY h0=>
 kr n hn l Bs Bn A cap m hm hc J Jx hY W ((hW.cell (p:=⟨Bs,0,none⟩) (World.block_lt_of_cell? w ⟨Bs,0,none⟩ mu)).trans mu) ((hW.cell (p:=⟨Bn,0,none⟩) (World.block_lt_of_cell? w ⟨Bn,0,none⟩ yd)).trans yd) h0
  (hJ [] W W.drew none h0 ⟨rfl,rfl,rfl,Nat.le_refl _,fun _ _ _=>rfl⟩ (fun r e=>by cases e))
end
section
attribute [local go_sem] Oper.semAt_some
variable {B:Nat}
theorem PE{w:World}{C hg:Nat}{cs:Array Value}{v u:Value}{c:Cw}{l m:Qs}(hu:OQ 61 w C u m)(h:BU B w v c l)(hh:w.heap[hg]?=some (.cells cs 116)){b:Nat}(hb:u.ownBlock=some b):¬(b=hg\/LU c b):=by
 have e:∃cur,w.heap[b]?=some (.cells cur 61):=by
  rcases hu.2 with ⟨rfl,_⟩|⟨g,cap,cur,rfl,_,h2,_⟩
  ·cases hb
  ·cases hb;exact ⟨cur,h2⟩
 obtain ⟨cur,e⟩:=e;rintro (rfl|k|⟨g,t,k1,rfl⟩)
 ·rw[hh]at e;cases e
 ·obtain ⟨_,La,e2⟩:=h.rowAt k;rw[e]at e2;cases e2
 ·obtain ⟨rv,e2,_⟩:=(h.EL k1).1.obj;rw[e]at e2;cases e2
theorem LU.lt{w:World}{v:Value}{c:Cw}{l:Qs}(h:BU B w v c l){b:Nat}(k:LU c b):b<w.heap.size:=(h.OE k.bl).2
theorem ny(cs:Array Value)(k:Nat)(a b:Value):(cs.setIfInBounds k a).setIfInBounds k b=cs.setIfInBounds k b:=by
 apply Array.ext_getElem?
 intro i;simp only[Array.getElem?_setIfInBounds,Array.size_setIfInBounds];split <;> rfl
theorem Ba.trans{w w1 w2:World}{hg k:Nat}{cs:Array Value}{c c1:Cw}{v1:Value}{l2:Qs}(h2:(∀b∈c1.bl,b∈c.bl\/w.heap.size<=b))(h3:∀b,LU c1 b->LU c b\/w.heap.size<=b)(h4:AZ (fun b=>b=hg\/LU c b) w w1)(k1:Ba B w1 hg k (cs.setIfInBounds k v1) c1 l2 w2):Ba B w hg k cs c l2 w2:=by
 obtain ⟨v',c',q1,q2,q3,q4,q5⟩:=k1;rw[ny]at q1;refine ⟨v',c',q1,q2,fun b hb=>?_,fun b hb=>?_,h4.more q5 (fun b hb=>?_)⟩
 ·rcases q3 b hb with q|q
  ·exact h2 b q
  ·exact .inr (le_trans h4.size q)
 ·rcases q4 b hb with q|q
  ·exact h3 b q
  ·exact .inr (le_trans h4.size q)
 ·rcases hb with rfl|hb
  ·exact .inl (.inl rfl)
  ·exact (h3 b hb).imp .inr id
theorem Ba.grown{w W W':World}{hg k:Nat}{cs:Array Value}{c:Cw}{l:Qs}{row:Option Nat}(h:Ba B w hg k cs c l W)(g:W.grownBy W' row)(hr:∀r,row=some r->w.heap.size<=r/\∃o:Obj,W.heap[r]?=some o/\o.isCells=false):Ba B w hg k cs c l W':=by
 obtain ⟨v',c',q1,q2,q3,q4,q5⟩:=h;have st:AZ (fun b=>row=some b) W W':=AZ.grown g (fun b e=>e);have hn:∀{b:Nat} {cs:Array Value} {t:TypeId},W.heap[b]?=some (.cells cs t)->¬row=some b:=fun e1 e2=>by
  obtain ⟨_,o,ho,hc⟩:=hr _ e2;rw[e1]at ho;cases ho;cases hc
 refine ⟨v',c',st.own q1 (hn q1),q2.stays st (fun b hb e=>?_),q3,q4,q5.more st (fun b e=>.inr (hr b e).1)⟩;rcases hb with hb|⟨g',t,k1,k2⟩
 ·obtain ⟨_,La,e2⟩:=q2.rowAt hb;exact hn e2 e
 ·rcases k2.kinds (q2.EL k1).1 with ⟨_,rv,e2⟩|⟨_,cs,e2⟩|⟨_,cs,e2⟩
  ·exact hn e2 e
  ·exact hn e2 e
  ·exact hn e2 e
theorem Ba.later{w W W':World}{hg k:Nat}{cs:Array Value}{c:Cw}{l:Qs}(h:Ba B w hg k cs c l W)(a:AA W W'):Ba B w hg k cs c l W':=by
 obtain ⟨v',c',q1,q2,q3,q4,q5⟩:=h;exact ⟨v',c',AB a q1,q2.later a,q3,q4,q5.later a⟩
theorem Ba.box{w W:World}{hg k s i:Nat}{cs:Array Value}{c:Cw}{l:Qs}{x:Array Value}{t:TypeId}(h:Ba B w hg k cs c l W)(hs:w.heap.size<=s)(hx:W.heap[s]?=some (.cells x t))(ht:t≠116/\t≠166/\t≠211/\t≠249/\t≠61)(u:Value):Ba B w hg k cs c l (W.setCell ⟨s,i,none⟩ u):=by
 obtain ⟨v',c',q1,q2,q3,q4,q5⟩:=h;have st:AZ (fun b=>b=s) W (W.setCell ⟨s,i,none⟩ u):=(AZ.refl _ _).setCell (S:=fun b=>b=s) rfl u;have hn:∀{b:Nat} {cs:Array Value} {t':TypeId},W.heap[b]?=some (.cells cs t')->t'≠t->¬b=s:=fun e1 Az e2=>by
  subst e2;rw[e1]at hx;simp only[Option.some.injEq,Obj.cells.injEq]at hx;exact Az hx.2.1
 refine ⟨v',c',st.own q1 (hn q1 ht.1.symm),q2.stays st (fun b hb=>?_),q3,q4,q5.more st (fun b e=>.inr (by rw[e];exact hs))⟩;rcases hb with hb|⟨g',t',k1,k2⟩
 ·obtain ⟨_,La,e2⟩:=q2.rowAt hb;exact hn e2 ht.2.1.symm
 ·rcases k2.kinds (q2.EL k1).1 with ⟨_,rv,e2⟩|⟨_,cs,e2⟩|⟨_,cs,e2⟩
  ·exact hn e2 ht.2.2.1.symm
  ·exact hn e2 ht.2.2.2.1.symm
  ·exact hn e2 ht.2.2.2.2.symm
def mD(s hg k:Nat)(fr:Int)(W:World):Prop:=W.heap[s]?=some (.cells #[.pointer (some ⟨hg,k,none⟩)] 225)/\W.heap[s+1]?=some (.cells #[.int .i64 fr] 3)/\W.heap[s+1+1]?=some (.cells #[.int .i64 16777216] 3)
theorem mD.any{s hg k:Nat}{fr:Int}{W W':World}(h:mD s hg k fr W)(a:AA W W'):mD s hg k fr W':=⟨AB a h.1,AB a h.2.1,AB a h.2.2⟩
theorem mD.stays{S:Nat->Prop}{s hg k:Nat}{fr:Int}{W W':World}(h:mD s hg k fr W)(a:AZ S W W')(hn:∀b,s<=b->¬S b):mD s hg k fr W':=⟨a.own h.1 (hn _ AD),a.own h.2.1 (hn _ AD),a.own h.2.2 (hn _ AD)⟩
def ChB(Bs:Nat)(u:Value)(W:World):Prop:=W.heap[Bs]?=some (.cells #[u] 84)/\W.heap[Bs+1]?=some (.cells #[.int .i64 8388608] 3)
def SpI(B:Nat)(w:World)(s hg k Bs:Nat)(u:Value)(cs:Array Value)(c:Cw)(fr:Int)(l2 lf:Qs)(pre:List Unit)(W:World):Prop:=(pre=[]/\Ba B w hg k cs c l2 W/\mD s hg k fr W/\ChB Bs u W)\/(pre=[()]/\Ba B w hg k cs c lf W)
theorem Ji(hg k:Nat)(cs:Array Value)(v u:Value)(l m:Qs)(c:Cw)(i n C:Nat)(tt:Int)(w:World)(hh:w.heap[hg]?=some (.cells cs 116))(hk:cs[k]?=some v)(h:BU B w v c l)(hB:B<=w.heap.size)(uL:tt-(i:Int)=(n:Int))(hi:i+n<=l.length)(hu:OQ 61 w C u m)(hm:l.length+m.length<=45000)(hb:m.any CF=false):
 Calls prog 133 #[.pointer (some ⟨hg,k,none⟩),.int .i64 (i:Int),.int .i64 tt,u,.int .i64 16777216] w fun e w'=>e=.returned (.tuple #[])/\Ba B w hg k cs c (l.take i++m++l.drop (i+n)) w':=by
 have BN:=As hh;have hlen:=h.Hz.2;have od:=AC (fun (w':World) (a:AA w w')=>cE hg k cs v l c i n w' (AB a hh) hk (h.later a) hi);have IY:i<=(l.take i++l.drop (i+n)).length/\(l.take i++l.drop (i+n)).length<=l.length:=by
  rw[List.length_append,length_take,List.length_drop];omega
 have xa:Hid (∀(W:World) (A:Option Addr) (cap:Nat),u=.slice A m.length cap->Ba B w hg k cs c (l.take i++l.drop (i+n)) W->Calls prog 181 #[.pointer (some ⟨hg,k,none⟩),.int .i64 (i:Int),.slice A m.length m.length,.int .i64 16777216] W fun e w'=>e=.returned (.tuple #[])/\Ba B w hg k cs c (l.take i++m++l.drop (i+n)) w'/\AZ (fun b=>b<W.heap.size/\∃cs t,W.heap[b]?=some (.cells cs t)/\(t=116\/t=166\/t=211)) W w'):=AC (fun W A cap px q=>by
  obtain ⟨v1,c1,q1,q2,q3,q4,q5⟩:=q;have hr:QR W (.slice A m.length m.length) m:=by
   obtain ⟨A',DZ,e,h2,h3⟩:=OQ.rq (Ct hu q5 (fun b hb=>PE hu h hh hb):OQ 61 W C u m);rw[px]at e;cases e;exact ⟨A,m.length,rfl,Nat.le_refl _,h3⟩
  have hks:k<cs.size:=(Array.getElem?_eq_some_iff.1 hk).1;refine (bU hg k _ v1 _ (l.take i++l.drop (i+n)) m c1 i W q1 (by rw[Array.getElem?_setIfInBounds_self,if_pos hks]) q2 (le_trans hB q5.size) IY.1 hr AD hb).mono ?_;rintro e w' ⟨rfl,r⟩;have e9:(l.take i++l.drop (i+n)).take i++m++(l.take i++l.drop (i+n)).drop i=l.take i++m++l.drop (i+n):=by
   rw[List.take_append_of_le_length (by rw[length_take];omega),List.take_take,Nat.min_self,List.drop_append_of_le_length (by rw[length_take];omega),List.drop_of_length_le (by rw[length_take];omega),nil_append]
  rw[e9]at r;refine ⟨rfl,Ba.trans q3 q4 q5 r,?_⟩;obtain ⟨_,_,_,_,_,_,r5⟩:=r;refine r5.wide (fun b hb hc=>⟨hb,?_⟩);rcases hc with rfl|hc|⟨g,t,k1,rfl⟩
  ·exact ⟨_,_,q1,.inl rfl⟩
  ·obtain ⟨_,La,e2⟩:=q2.rowAt hc;exact ⟨_,_,e2,.inr (.inl rfl)⟩
  ·obtain ⟨rv,e2,_⟩:=(q2.EL k1).1.obj;exact ⟨_,_,e2,.inr (.inr rfl)⟩)
 have Z14:Hid (m=[]->l.take i++l.drop (i+n)=l.take i++m++l.drop (i+n)):=AC (fun e=>by rw[e,List.append_nil]);have K14:Hid (∀b,LU c b->b<w.heap.size):=AC (fun b hb=>hb.lt h);obtain ⟨A,cap,rfl,JY⟩:=(OQ.rq hu).form;have Ox:=AC (fun (W:World) q=>xa W A cap rfl q);have K18:i+n<=45000:=AD;have hM0:m.length=0->m=[]:=List.eq_nil_of_length_eq_zero;have hM:m.length<=45000:=AD;obtain ⟨s,hs⟩:=BZ (w.heap.size);clear xa hu hb hk h hB hi hm hlen IY;generalize IY:l.take i++l.drop (i+n)=l2 at *;generalize hlf:l.take i++m++l.drop (i+n)=lf at *;clear IY hlf;generalize m.length=M at *;have HS:=AC hs;refine (callsIn_wide (n:=8)).1 ?_;refine callsIn_of_wp_marks func133 rfl trivial ?_ rfl;simp only[ntmps133,List.size_toArray,List.length_cons,List.length_nil,Nat.reduceAdd,Nat.reduceSub,Array.replicate_succ,Array.replicate_zero,List.push_toArray,List.append_toArray,nil_append,List.cons_append]
 gi_wp2_with fail
 have aW:AA w (((w.alloc (.cells #[.pointer (some ⟨hg,k,none⟩)] 225)).alloc (.cells #[.int .i64 (i:Int)] 3)).alloc (.cells #[.int .i64 16777216] 3)):=BQ;have bW:mD s hg k (i:Int) (((w.alloc (.cells #[.pointer (some ⟨hg,k,none⟩)] 225)).alloc (.cells #[.int .i64 (i:Int)] 3)).alloc (.cells #[.int .i64 16777216] 3)):=by
  subst hs;refine ⟨?_,?_,?_⟩
  ·exact CG
  ·exact CG
  ·exact CG
 refine ⟨trivial,?_⟩;refine (callsIn_wide.2 (od _ aW)).mono ?_;rintro e w2 ⟨rfl,q⟩;have b2:mD s hg k (i:Int) w2:=by
  obtain ⟨_,_,_,_,_,_,q5⟩:=id q;exact bW.stays q5 (fun b hb hc=>by
   rcases hc with rfl|hc
   ·omega
   ·have:=K14 b hc;omega)
 have q2:=Ba.from aW q
 have z2:s+3<=w2.heap.size:=by
  obtain ⟨_,_,_,_,_,_,q5⟩:=q;have:=q5.size
  simp only[World.size_alloc]at this;omega
 have Q2:=AC q2;have B2:=AC b2;have Z2:=AC z2;clear aW bW q q2;have g0:=AE b2.1;have g1:=AE b2.2.1;have g2:=AE b2.2.2;clear b2 z2
 gi_wp2_with fail
 refine ⟨trivial,?_⟩;refine (callsIn_wide.2 (ek A M cap w2)).mono ?_;rintro e w' ⟨rfl,rfl⟩
 gi_wp2
 obtain ⟨Bs,mu⟩:=BZ (w2.heap.size);obtain ⟨W3,wC⟩:=BZ ((w2.alloc (.cells #[.slice A M cap] 84)).alloc (.cells #[.int .i64 8388608] 3));have a3:AA w2 W3:=by rw[<-wC];exact BQ
 have z3:W3.heap.size=Bs+1+1:=by rw[<-wC];simp[mu]
 have c1:W3.heap[Bs]?=some (.cells #[.slice A M cap] 84):=by subst mu;rw[<-wC];exact CG
 have c2:W3.heap[Bs+1]?=some (.cells #[.int .i64 8388608] 3):=by subst mu;rw[<-wC];exact CG
 rw[wC,mu];have Q3:=AC (Q2.out.later a3);have B3:=AC (B2.out.any a3);have hsB:s+3<=Bs:=by have:=Z2.out;omega
 have hwB:w.heap.size<=W3.heap.size:=by rw[HS.out,z3];omega
 have hown:OwnFrom W3.heap.size (SpI B w s hg k Bs (.slice A M cap) cs c (i:Int) l2 lf):=fun pre W W' row hI g hr=>by
  have hr':∀r,row=some r->w.heap.size<=r/\∃o:Obj,W.heap[r]?=some o/\o.isCells=false:=fun r e=>⟨le_trans hwB (hr r e).1,(hr r e).2⟩
  rcases hI with ⟨rfl,h1,h2,h3⟩|⟨rfl,h1⟩
  ·have st:AZ (fun b=>row=some b) W W':=AZ.grown g (fun b e=>e);have hn:∀{b:Nat} {cs:Array Value} {t:TypeId},W.heap[b]?=some (.cells cs t)->¬row=some b:=fun e1 e2=>by
    obtain ⟨_,o,ho,hc⟩:=hr _ e2;rw[e1]at ho;cases ho;cases hc
   exact .inl ⟨rfl,h1.grown g hr',⟨st.own h2.1 (hn h2.1),st.own h2.2.1 (hn h2.2.1),st.own h2.2.2 (hn h2.2.2)⟩,st.own h3.1 (hn h3.1),st.own h3.2 (hn h3.2)⟩
  ·exact .inr ⟨rfl,h1.grown g hr'⟩
 refine wpIn_rangeFunc_ownH rfl (by decide) (gf:=226) (lb:= #[.pointer (some ⟨Bs,0,none⟩),.pointer (some ⟨Bs+1,0,none⟩)]) rfl trivial UG
  (VK _ (by decide) Bs (Bs+1) A cap M hM JY W3 (by rw[AE c1];rfl) (by rw[AE c2];rfl)) (fun h k=>h.trans k) (bh.turn (by rw[z3];omega) (by rw[z3];omega)) (Below.refl _ _) (fun _=>rfl)
  (SpI B w s hg k Bs (.slice A M cap) cs c (i:Int) l2 lf) (fun _ _ _=>False) hown (fun _ _ _ _ _ hs _ _=>hs)
  (.inl ⟨rfl,Q3.out,B3.out,c1,c2⟩)
  (fun _ a' _=>a'={tmps:= #[.pointer (some ⟨hg,k,none⟩),.int .i64 (i:Int),.int .i64 tt,.slice A M cap,.int .i64 16777216,.pointer (some ⟨s,0,none⟩),.pointer (some ⟨s+1,0,none⟩),undef,undef,.pointer (some ⟨s+1+1,0,none⟩),.slice A M M,.pointer (some ⟨hg,k,none⟩),.int .i64 (i:Int),.int .i64 tt,.int .i64 (i:Int),.int .i64 (n:Int),.tuple #[],.slice A M cap,.int .i64 16777216,.int .i64 8388608,.func (.func 226) #[] #[.pointer (some ⟨Bs,0,none⟩),.pointer (some ⟨Bs+1,0,none⟩)],.slice A M M,undef,undef,undef,undef,undef,undef,undef,undef,undef],defers:=[]})
  (fun x a' b X Y row h hg hr=>h) ?assign ?body ?done ?stop
 case assign=>
  rintro l pre x W K hI hK
  gi_wp2
  exact hK _ _ (KeepsFrom.refl _ _) (bh.refl _ _ _) hI rfl
 case body=>
  rintro l pre x a' W hl-hI rfl BN;obtain ⟨rfl,h1,h2,h3⟩:=hI.resolve_right (fun q=>by rw[q.1]at BN;exact absurd BN (by decide));have HPW:=AC (Ox W h1);have Z0:=AC h3;have ud:=AC h2;have g0:=AE h2.1;have g1:=AE h2.2.1;have g2:=AE h2.2.2;clear h1 h2 h3
  gi_wp2_with fail
  refine ⟨trivial,?_⟩;refine (CallsIn.inRound l (callsIn_wide.2 HPW.out)).mono ?_;rintro e W2 ⟨rfl,r1,r2⟩;have b1:mD s hg k (i:Int) W2:=by
   refine ⟨r2.own ud.out.1 ?_,r2.own ud.out.2.1 ?_,r2.own ud.out.2.2 ?_⟩
   all_goals
    rintro ⟨-,La,t,e,ht⟩
    first
    |rw[ud.out.1]at e
    |rw[ud.out.2.1]at e
    |rw[ud.out.2.2]at e
    rcases ht with rfl|rfl|rfl
    all_goals cases e
  have b3:ChB Bs (.slice A M cap) W2:=by
   refine ⟨r2.own Z0.out.1 ?_,r2.own Z0.out.2 ?_⟩
   all_goals
    rintro ⟨-,La,t,e,ht⟩
    first
    |rw[Z0.out.1]at e
    |rw[Z0.out.2]at e
    rcases ht with rfl|rfl|rfl
    all_goals cases e
  have HZ:Hid (ownPostG W3.heap.size (bh Bs (Bs+1)) (SpI B w s hg k Bs (.slice A M cap) cs c (i:Int) l2 lf) (fun _ _ _=>False) ([]++[x]) W .normal {tmps:= #[],defers:=[]} (W2.setCell ⟨s+1,0,none⟩ (.int .i64 ((i:Int)+(M:Int))))):=AC (by
   refine ⟨⟨by rw[World.size_setCell];exact r2.size,fun q o hq ho hc=>?_⟩,⟨?_,?_⟩,.inr ⟨rfl,Ba.box r1 (by rw[HS.out];omega) b1.2.1 ⟨by decide,by decide,by decide,by decide,by decide⟩ _⟩⟩
   ·refine (Below.heap_setCell W2 _ _ q (by rw[z3]at hq;dsimp only;omega)).trans (r2.own ho ?_);rintro ⟨-,La,t,e,ht⟩;rw[ho]at e;cases e;cases hc
   ·rw[Below.heap_setCell W2 _ _ Bs (by dsimp only;omega),b3.1,Z0.out.1]
   ·rw[Below.heap_setCell W2 _ _ (Bs+1) (by dsimp only;omega),b3.2,Z0.out.2])
  have g4:=AE b1.2.1;have f4:=Bq b1.2.1;clear r1 r2 b1 b3 g0 g1 g2
  gi_wp2
  exact HZ.out
 case done=>
  rintro D xs W hD rfl hI hK;have r:Ba B w hg k cs c lf W:=by
   rcases hI with ⟨e,h1,-⟩|⟨-,h1⟩
   ·have e0:M=0:=by
     rcases Nat.eq_zero_or_pos M with q|q
     ·exact q
     ·rw[Nat.min_eq_right AD]at e;cases e
    rw[<-Z14 (hM0 e0)];exact h1
   ·exact h1
  have HZ:=AC (r.grown (grownBy_putObj' W D (.deferred none)) (fun q e=>by cases e;exact ⟨le_trans hwB hD,_,hK,rfl⟩));clear r hI
  gi_wp2
  refine ⟨Ar,.inl ⟨_,_,rfl,run_takeDeferred hK,?_⟩⟩;exact ⟨.tuple #[],by simp[results,results133,go_sem],rfl,HZ.out⟩
 case stop=>
  rintro D c pre W hD _ h _;exact h.elim
end
end Go.Proofs.YtamhnffokoejjaaGreatDoor
namespace Go.Proofs.YtamhnffokoejjaaGreatDoor
open List(replicate nil_append length_take ext_getElem? getElem?_set mem_cons not_mem_nil)
open Nat(le_trans)
open Go.Proofs.Tryz
open Go.RowKit
section
variable {B:Nat}
def Bo(L:Qs)(H:List Bool):Qs:=List.zipWith (fun x h=>if h then (0,0) else x) L H
def DU(H:List Bool):Qs:=H.map fun h=>if h then (0,0) else (0,1)
structure Gb(B:Nat)(w:World)(hg:Nat)(K:List Nat)(L:Qs)(H:List Bool):Prop where
 ex:∃v1 v2 v3 c1 c2 c3,w.heap[hg]?=some (.cells #[v1,v2,v3] 116)/\BU B w v1 c1 L/\BU B w v2 c2 (Bo L H)/\BU B w v3 c3 (DU H)/\(∀b∈c1.bl,b∉c2.bl)/\(∀b∈c1.bl,b∉c3.bl)/\(∀b∈c2.bl,b∉c3.bl)/\K=c1.bl++c2.bl++c3.bl
 base:B<=hg
 len:H.length=L.length
theorem Gb.later{w w':World}{hg:Nat}{K:List Nat}{L:Qs}{H:List Bool}(h:Gb B w hg K L H)(a:AA w w'):Gb B w' hg K L H:=by
 obtain ⟨v1,v2,v3,c1,c2,c3,h0,h1,h2,h3,h4⟩:=h.ex;exact ⟨⟨v1,v2,v3,c1,c2,c3,AB a h0,h1.later a,h2.later a,h3.later a,h4⟩,h.base,h.len⟩
theorem Gb.lt{w:World}{hg:Nat}{K:List Nat}{L:Qs}{H:List Bool}(h:Gb B w hg K L H):hg<w.heap.size:=by
 obtain ⟨v1,v2,v3,c1,c2,c3,h0,_⟩:=h.ex;exact As h0
theorem Gb.mB{w:World}{hg:Nat}{K:List Nat}{L:Qs}{H:List Bool}(h:Gb B w hg K L H):∀b∈K,B<=b/\b<w.heap.size:=fun b hb=>by
 obtain ⟨v1,v2,v3,c1,c2,c3,h0,h1,h2,h3,_,_,_,rfl⟩:=h.ex;rcases List.mem_append.1 hb with hb|hb
 ·rcases List.mem_append.1 hb with hb|hb
  ·exact h1.OE hb
  ·exact h2.OE hb
 ·exact h3.OE hb
theorem Gb.mA{w:World}{hg:Nat}{K:List Nat}{L:Qs}{H:List Bool}(h:Gb B w hg K L H):D8 L/\L.length<=45000:=by
 obtain ⟨v1,v2,v3,c1,c2,c3,h0,h1,_⟩:=h.ex;exact h1.Hz
def HV(B:Nat)(w:World)(hv:Value)(L:Qs)(H:List Bool):Prop:=(hv=.pointer none/\L=[]/\H=[])\/∃hg K,hv=.pointer (some ⟨hg,0,none⟩)/\Gb B w hg K L H
theorem HV.later{w w':World}{hv:Value}{L:Qs}{H:List Bool}(h:HV B w hv L H)(a:AA w w'):HV B w' hv L H:=by
 rcases h with h|⟨hg,K,e,h⟩
 ·exact .inl h
 ·exact .inr ⟨hg,K,e,h.later a⟩
theorem HV.len{w:World}{hv:Value}{L:Qs}{H:List Bool}(h:HV B w hv L H):H.length=L.length/\L.length<=45000/\D8 L:=by
 rcases h with ⟨_,rfl,rfl⟩|⟨hg,K,e,h⟩
 ·exact ⟨rfl,Ar,D8.nil⟩
 ·exact ⟨h.len,h.mA.2,h.mA.1⟩
theorem Gb.v{w:World}{hg:Nat}{K:List Nat}{L:Qs}{H:List Bool}(h:Gb B w hg K L H):HV B w (.pointer (some ⟨hg,0,none⟩)) L H:=.inr ⟨hg,K,rfl,h⟩
theorem Wl(w:World):Calls prog 76 #[.pointer none] w fun e w'=>e=.returned (.agg #[.slice none 0 0,.slice none 0 0,.slice none 0 0])/\AA w w':=by
 go_enter func76,ntmps76;go_wp2_with fail;refine bodyPost_ret (v:=.agg #[.slice none 0 0,.slice none 0 0,.slice none 0 0]) (by simp[results,results76,go_sem, *]) rfl ⟨rfl,?_⟩;exact BQ
theorem PU(hg:Nat)(A1 A2 A3:Option Addr)(n1 n2 n3 k1 k2 k3:Nat)(w:World)(hh:w.heap[hg]?=some (.cells #[.slice A1 n1 k1,.slice A2 n2 k2,.slice A3 n3 k3] 116)):Calls prog 76 #[.pointer (some ⟨hg,0,none⟩)] w fun e w'=>e=.returned (.agg #[.slice A1 n1 k1,.slice A2 n2 k2,.slice A3 n3 k3])/\AA w w':=by
 obtain ⟨r0,l0⟩:=Rn hh;clear hh;go_enter func76,ntmps76;go_wp2_with fail;refine bodyPost_ret (v:=.agg #[.slice A1 n1 k1,.slice A2 n2 k2,.slice A3 n3 k3]) (by simp[results,results76,go_sem, *]) rfl ⟨rfl,?_⟩;exact BQ
theorem HV.lines{w:World}{hv:Value}{L:Qs}{H:List Bool}(h:HV B w hv L H):∃A1 A2 A3 n1 n2 n3 k1 k2 k3 c1 c2 c3,(∀w',AA w w'->Calls prog 76 #[hv] w' fun e Bg=>e=.returned (.agg #[.slice A1 n1 k1,.slice A2 n2 k2,.slice A3 n3 k3])/\AA w' Bg)/\BU B w (.slice A1 n1 k1) c1 L/\BU B w (.slice A2 n2 k2) c2 (Bo L H)/\BU B w (.slice A3 n3 k3) c3 (DU H):=by
 rcases h with ⟨rfl,rfl,rfl⟩|⟨hg,K,rfl,h⟩
 ·exact ⟨_,_,_,_,_,_,_,_,_,_,_,_,fun w' _=>Wl w',BU.void w,BU.void w,BU.void w⟩
 ·obtain ⟨v1,v2,v3,c1,c2,c3,h0,h1,h2,h3,_⟩:=h.ex;obtain ⟨A1,n1,k1,rfl⟩:=h1.OL;obtain ⟨A2,n2,k2,rfl⟩:=h2.OL;obtain ⟨A3,n3,k3,rfl⟩:=h3.OL;exact ⟨A1,A2,A3,n1,n2,n3,k1,k2,k3,c1,c2,c3,fun w' a=>PU hg A1 A2 A3 n1 n2 n3 k1 k2 k3 w' (AB a h0),h1,h2,h3⟩
theorem HV.ptr{w:World}{hv:Value}{L:Qs}{H:List Bool}(h:HV B w hv L H):∃q,hv=.pointer q:=by
 rcases h with ⟨rfl,_⟩|⟨hg,K,rfl,_⟩
 ·exact ⟨_,rfl⟩
 ·exact ⟨_,rfl⟩
theorem Uu(v1 v2 v3:Value)(w:World):(Instr.field 116 (.agg #[v1,v2,v3]) 0).run prog w=.ok (.agg #[v1]) w:=AY
theorem V5(v1 v2 v3:Value)(w:World):(Instr.field 116 (.agg #[v1,v2,v3]) 1).run prog w=.ok (.agg #[v2]) w:=AY
theorem iI(v1 v2 v3:Value)(w:World):(Instr.field 116 (.agg #[v1,v2,v3]) 2).run prog w=.ok (.agg #[v3]) w:=AY
theorem R9(hv:Value)(L:Qs)(H:List Bool)(w:World)(h:HV B w hv L H):Calls prog 44 #[hv] w fun e w'=>e=.returned (.int .i64 (L.length:Int))/\AA w w':=by
 obtain ⟨A1,A2,A3,n1,n2,n3,k1,k2,k3,c1,c2,c3,HL,i1,i2,i3⟩:=h.lines;have HL:=AC HL;have HS:=AC (fun (w':World) (a:AA w w')=>MB _ c1 L w' (i1.later a));obtain ⟨q,rfl⟩:=h.ptr;have hf:=Uu;clear h i1 i2 i3;generalize L.length=n at *;go_enter func44,ntmps44;go_wp2_with fail;refine (HL _ (AA.refl w)).mono ?_;rintro e w1 ⟨rfl,AJ⟩;have AG:=AJ;go_wp2_with fail;refine (HS _ AG).mono ?_;rintro e w2 ⟨rfl,AL⟩;have AR:=AG.trans AL;go_wp2_with fail;go_ret;exact ⟨rfl,AR⟩
theorem Pa(hv:Value)(L:Qs)(H:List Bool)(i:Int)(w:World)(r:Value)(hr:NX L i=r)(h:HV B w hv L H):Calls prog 47 #[hv,.int .i64 i] w fun e w'=>e=.returned r/\AA w w':=by
 obtain ⟨A1,A2,A3,n1,n2,n3,k1,k2,k3,c1,c2,c3,HL,i1,i2,i3⟩:=h.lines;have HL:=AC HL;obtain ⟨a,b,ok,e⟩:=QP L i;rw[e]at hr;subst hr;have HS:=AC (fun (w':World) (a:AA w w')=>NU _ c1 L i w' _ e (i1.later a));obtain ⟨q,rfl⟩:=h.ptr;have hf:=Uu;clear h i1 i2 i3 e;go_enter func47,ntmps47;go_wp2_with fail;refine AQ (fun wS=>AA w wS/\wS.heap[w.heap.size]?=some (.cells #[.int .i64 0,.int .i64 0] 61)) ⟨BQ,CG⟩ ?_;rintro w1 ⟨AJ,AH⟩;have AG:=AJ;refine (HL _ AG).mono ?_;rintro e w2 ⟨rfl,AL⟩;have AR:=AG.trans AL;have AU:=AB AL AH;go_wp2_with fail;refine (HS _ AR).mono ?_;rintro e w3 ⟨rfl,AX⟩;have An:=AR.trans AX;have Ah:=AB AX AU;obtain ⟨CB,Fu⟩:=DX Ah;go_wp2_with fail;refine bodyPost_ret (v:=.tuple #[.agg #[.int .i64 a,.int .i64 b],.bool ok]) (by simp[results,results47,go_sem, *]) rfl ⟨rfl,?_⟩;exact BQ
def Nz(H:List Bool)(i:Int):Bool:=if h:0<=i/\i<H.length then H[i.toNat]'AD else false
theorem oO(H:List Bool)(i:Int):(NX (DU H) i=.tuple #[.agg #[.int .i64 0,.int .i64 0],.bool (Nz H i)]/\(Nz H i=true\/¬(0<=i/\i<H.length)))\/(NX (DU H) i=.tuple #[.agg #[.int .i64 0,.int .i64 1],.bool true]/\Nz H i=false):=by
 unfold NX Nz;have hl:(DU H).length=H.length:=by unfold DU;rw[List.length_map]
 by_cases h:0<=i/\i<H.length
 ·rw[dif_pos (by rw[hl];exact h),dif_pos h];have e:(DU H)[i.toNat]'(by rw[hl];omega)=if H[i.toNat]'AD then (0,0) else (0,1):=by unfold DU;rw[List.getElem_map]
  simp only[e];cases hb:H[i.toNat]'AD
  ·right;simp
  ·left;simp
 ·rw[dif_neg (by rw[hl];exact h),dif_neg h];exact .inl ⟨rfl,.inr h⟩
theorem SK(hv:Value)(L:Qs)(H:List Bool)(i:Int)(w:World)(Hh:Int)(hH:DG ((Bo L H).take (JR (Bo L H) i))=Hh)(h:HV B w hv L H):Calls prog 27 #[hv,.int .i64 i] w fun e w'=>e=.returned (.int .i64 Hh)/\AA w w':=by
 obtain ⟨A1,A2,A3,n1,n2,n3,k1,k2,k3,c1,c2,c3,HL,i1,i2,i3⟩:=h.lines;have HL:=AC HL;obtain ⟨R,hR⟩:=BZ (DL ((Bo L H).take (JR (Bo L H) i)));have HS:=AC (fun (w':World) (a:AA w w')=>S5 _ c2 _ i w' R Hh hR hH (i2.later a));obtain ⟨q,rfl⟩:=h.ptr;have hf:=V5;have ee:=m6;clear h i1 i2 i3 hR hH;go_enter func27,ntmps27;go_wp2_with fail;refine (HL _ (AA.refl w)).mono ?_;rintro e w2 ⟨rfl,AL⟩;have AR:=AL;go_wp2_with fail;refine (HS _ AR).mono ?_;rintro e w3 ⟨rfl,AX⟩;have An:=AR.trans AX;go_wp2_with fail;go_ret;exact ⟨rfl,An⟩
theorem O9{L:Qs}{H:List Bool}(h:H.length=L.length):(Bo L H).length=L.length:=by unfold Bo;rw[List.length_zipWith,h,Nat.min_self]
theorem KG(hv:Value)(L:Qs)(H:List Bool)(w:World)(R Hh:Int)(hR:DL (Bo L H)=R)(hH:DG (Bo L H)=Hh)(h:HV B w hv L H):Calls prog 28 #[hv] w fun e w'=>e=.returned (.agg #[.int .i64 R,.int .i64 Hh])/\AA w w':=by
 obtain ⟨A1,A2,A3,n1,n2,n3,k1,k2,k3,c1,c2,c3,HL,i1,i2,i3⟩:=h.lines;have HL:=AC HL;have HN:=AC (fun (w':World) (a:AA w w')=>R9 hv L H w' (h.later a));have e:(Bo L H).take (JR (Bo L H) (L.length:Int))=Bo L H:=by
  rw[<-O9 h.len.1,jX,List.take_length]
 have HS:=AC (fun (w':World) (a:AA w w')=>S5 _ c2 _ (L.length:Int) w' R Hh (by rw[e];exact hR) (by rw[e];exact hH) (i2.later a));obtain ⟨q,rfl⟩:=h.ptr;have hf:=V5;clear h i1 i2 i3 hR hH e;generalize L.length=n at *;go_enter func28,ntmps28;go_wp2_with fail;refine AQ (fun wS=>AA w wS/\wS.heap[w.heap.size]?=some (.cells #[.int .i64 0,.int .i64 0] 61)) ⟨BQ,CG⟩ ?_;rintro w1 ⟨AJ,AH⟩;have AG:=AJ;refine (HL _ AG).mono ?_;rintro e w2 ⟨rfl,AL⟩;have AR:=AG.trans AL;have AU:=AB AL AH;go_wp2_with fail;refine (HN _ AR).mono ?_;rintro e w3 ⟨rfl,AX⟩;have An:=AR.trans AX;have Ah:=AB AX AU;go_wp2_with fail;refine (HS _ An).mono ?_;rintro e w4 ⟨rfl,Ao⟩;have Bl:=An.trans Ao;have BK:=AB Ao Ah;obtain ⟨Dz,FK⟩:=DX BK;go_wp2_with fail;refine bodyPost_ret (v:=.agg #[.int .i64 R,.int .i64 Hh]) (by simp[results,results28,go_sem, *]) rfl ⟨rfl,?_⟩;exact BQ
end
section
variable {B:Nat}
structure Oj(B:Nat)(w:World)(hg:Nat)(v1 v2 v3:Value)(c1 c2 c3:Cw)(l1 l2 l3:Qs):Prop where
 CT:w.heap[hg]?=some (.cells #[v1,v2,v3] 116)
 i1:BU B w v1 c1 l1
 i2:BU B w v2 c2 l2
 i3:BU B w v3 c3 l3
 d12:∀b∈c1.bl,b∉c2.bl
 d13:∀b∈c1.bl,b∉c3.bl
 d23:∀b∈c2.bl,b∉c3.bl
def HC(B:Nat)(w:World)(hg:Nat)(K:List Nat)(b:Nat):Prop:=b=hg\/(B<=b/\(b∈K\/∃cs,w.heap[b]?=some (.cells cs 249)))
def B9(B:Nat)(w:World)(hg:Nat)(K:List Nat)(l1 l2 l3:Qs)(w':World):Prop:=∃v1 v2 v3 c1 c2 c3,Oj B w' hg v1 v2 v3 c1 c2 c3 l1 l2 l3/\(∀b∈c1.bl++c2.bl++c3.bl,b∈K\/w.heap.size<=b)/\AZ (HC B w hg K) w w'
def IR(B:Nat)(w:World)(hg:Nat)(K:List Nat)(L:Qs)(H:List Bool)(w':World):Prop:=∃K',Gb B w' hg K' L H/\(∀b∈K',b∈K\/w.heap.size<=b)/\AZ (HC B w hg K) w w'
theorem Gb.tri{w:World}{hg:Nat}{K:List Nat}{L:Qs}{H:List Bool}(h:Gb B w hg K L H):B9 B w hg K L (Bo L H) (DU H) w:=by
 obtain ⟨v1,v2,v3,c1,c2,c3,h0,h1,h2,h3,d1,d2,d3,rfl⟩:=h.ex;exact ⟨v1,v2,v3,c1,c2,c3,⟨h0,h1,h2,h3,d1,d2,d3⟩,fun b hb=>.inl hb,AZ.refl _ _⟩
theorem B9.done{w w':World}{hg:Nat}{K:List Nat}{L l2 l3:Qs}{H:List Bool}(h:B9 B w hg K L l2 l3 w')(hB:B<=hg)(hl:H.length=L.length)(e2:l2=Bo L H)(e3:l3=DU H):IR B w hg K L H w':=by
 obtain ⟨v1,v2,v3,c1,c2,c3,t,hk,hs⟩:=h;subst e2;subst e3;exact ⟨_,⟨⟨v1,v2,v3,c1,c2,c3,t.CT,t.i1,t.i2,t.i3,t.d12,t.d13,t.d23,rfl⟩,hB,hl⟩,hk,hs⟩
theorem IR.same{w w':World}{hg:Nat}{K:List Nat}{L:Qs}{H:List Bool}(h:Gb B w hg K L H)(a:AA w w'):IR B w hg K L H w':=⟨K,h.later a,fun b hb=>.inl hb,.of a⟩
theorem B9.later{w W W':World}{hg:Nat}{K:List Nat}{l1 l2 l3:Qs}(h:B9 B w hg K l1 l2 l3 W)(a:AA W W'):B9 B w hg K l1 l2 l3 W':=by
 obtain ⟨v1,v2,v3,c1,c2,c3,t,hk,hs⟩:=h;exact ⟨v1,v2,v3,c1,c2,c3,⟨AB a t.CT,t.i1.later a,t.i2.later a,t.i3.later a,t.d12,t.d13,t.d23⟩,hk,hs.later a⟩
theorem HC.more{w W:World}{hg:Nat}{K:List Nat}{Ks:List Nat}(hK:∀b∈Ks,b∈K\/w.heap.size<=b)(hs:AZ (HC B w hg K) w W){b:Nat}(hb:b=hg\/(B<=b/\(b∈Ks\/∃cs,W.heap[b]?=some (.cells cs 249)))):HC B w hg K b\/w.heap.size<=b:=by
 rcases hb with hb|⟨h1,hb|⟨cs,hb⟩⟩
 ·exact .inl (.inl hb)
 ·exact (hK b hb).imp (fun q=>.inr ⟨h1,.inl q⟩) id
 ·rcases Nat.lt_or_ge b w.heap.size with q|q
  ·refine .inl ?_;by_cases hc:HC B w hg K b
   ·exact hc
   ·exact .inr ⟨h1,.inr ⟨cs,(hs.block b q hc).symm.trans hb⟩⟩
  ·exact .inr q
theorem B9.step{w W w':World}{hg:Nat}{K:List Nat}{l1 l2 l3 m1 m2 m3:Qs}{v1 v2 v3:Value}{c1 c2 c3:Cw}{S:Nat->Prop}(t:Oj B W hg v1 v2 v3 c1 c2 c3 l1 l2 l3)(hK:∀b∈c1.bl++c2.bl++c3.bl,b∈K\/w.heap.size<=b)(hs:AZ (HC B w hg K) w W)(st:AZ S W w')
 (hS:∀b,S b->b=hg\/(B<=b/\(b∈c1.bl++c2.bl++c3.bl\/∃cs,W.heap[b]?=some (.cells cs 249))))
 (h:∃u1 u2 u3 d1 d2 d3,Oj B w' hg u1 u2 u3 d1 d2 d3 m1 m2 m3/\∀b∈d1.bl++d2.bl++d3.bl,b∈c1.bl++c2.bl++c3.bl\/W.heap.size<=b):B9 B w hg K m1 m2 m3 w':=by
 obtain ⟨u1,u2,u3,d1,d2,d3,t',h2⟩:=h;refine ⟨u1,u2,u3,d1,d2,d3,t',fun b hb=>?_,hs.more st (fun b hb=>HC.more hK hs (hS b hb))⟩;rcases h2 b hb with q|q
 ·exact hK b q
 ·exact .inr (le_trans hs.size q)
theorem Ix{w:World}{v:Value}{c c' d:Cw}{l:Qs}(hd:∀b∈c.bl,b∉d.bl)(h:∀b∈c'.bl,b∈c.bl\/w.heap.size<=b)(i:BU B w v d l):∀b∈c'.bl,b∉d.bl:=fun b hb k=>by
 rcases h b hb with q|q
 ·exact hd b q k
 ·have:=(i.OE k).2;omega
theorem Cj{c d:Cw}(h:∀b∈c.bl,b∉d.bl):∀b∈d.bl,b∉c.bl:=fun b hb k=>h b k hb
theorem BU.beside{w w':World}{v v':Value}{c d:Cw}{l l':Qs}{hg:Nat}{cs:Array Value}{S:Nat->Prop}(i:BU B w v d l)(j:BU B w v' c l')(hd:∀b∈c.bl,b∉d.bl)(hh:w.heap[hg]?=some (.cells cs 116))(st:AZ S w w')(hS:∀b,S b->b=hg\/RU w c b):BU B w' v d l:=i.stays st (fun b hb e=>by
 rcases hS b e with q|q
 ·exact EG i hh (q ▸ hb)
 ·exact RU.apart j i hd q hb)
theorem Nd{a b c:List Nat}{x:Nat}(h:x∈a):x∈a++b++c:=by simp[h]
theorem Nn{a b c:List Nat}{x:Nat}(h:x∈b):x∈a++b++c:=by simp[h]
theorem Np{a b c:List Nat}{x:Nat}(h:x∈c):x∈a++b++c:=by simp[h]
theorem kW{a b c:List Nat}{x:Nat}(h:x∈a++b++c):x∈a\/x∈b\/x∈c:=by simpa[or_assoc] using h
section
variable {w W W':World}{hg:Nat}{K:List Nat}{l1 l2 l3 l:Qs}{v1 v2 v3:Value}{c1 c2 c3:Cw}
theorem Oj.nU(t:Oj B W hg v1 v2 v3 c1 c2 c3 l1 l2 l3)(hK:∀b∈c1.bl++c2.bl++c3.bl,b∈K\/w.heap.size<=b)(hs:AZ (HC B w hg K) w W)(p:Ba B W hg 0 #[v1,v2,v3] c1 l W'):B9 B w hg K l l2 l3 W':=by
 obtain ⟨v',c',q1,q2,q3,q4,q5⟩:=p;have hn:∀b,(b=hg\/LU c1 b)->b=hg\/RU W c1 b:=fun b hb=>hb.imp id LU.uP
 refine B9.step t hK hs q5 (fun b hb=>?_) ⟨v',v2,v3,c',c2,c3,⟨q1,q2,t.i2.beside t.i1 t.d12 t.CT q5 hn,t.i3.beside t.i1 t.d13 t.CT q5 hn,Ix t.d12 q3 t.i2,Ix t.d13 q3 t.i3,t.d23⟩,fun b hb=>?_⟩
 ·rcases hb with hb|hb
  ·exact .inl hb
  ·have k:=(LU.uP (w:=W) hb).kinds t.i1;exact .inr ⟨k.1,k.2.imp Nd id⟩
 ·rcases kW hb with q|q|q
  ·exact (q3 b q).imp Nd id
  ·exact .inl (Nn q)
  ·exact .inl (Np q)
theorem Oj.nu(t:Oj B W hg v1 v2 v3 c1 c2 c3 l1 l2 l3)(hK:∀b∈c1.bl++c2.bl++c3.bl,b∈K\/w.heap.size<=b)(hs:AZ (HC B w hg K) w W)(p:Ba B W hg 1 #[v1,v2,v3] c2 l W'):B9 B w hg K l1 l l3 W':=by
 obtain ⟨v',c',q1,q2,q3,q4,q5⟩:=p;have hn:∀b,(b=hg\/LU c2 b)->b=hg\/RU W c2 b:=fun b hb=>hb.imp id LU.uP
 refine B9.step t hK hs q5 (fun b hb=>?_) ⟨v1,v',v3,c1,c',c3,⟨q1,t.i1.beside t.i2 (Cj t.d12) t.CT q5 hn,q2,t.i3.beside t.i2 t.d23 t.CT q5 hn,Cj (Ix (Cj t.d12) q3 t.i1),t.d13,Ix t.d23 q3 t.i3⟩,fun b hb=>?_⟩
 ·rcases hb with hb|hb
  ·exact .inl hb
  ·have k:=(LU.uP (w:=W) hb).kinds t.i2;exact .inr ⟨k.1,k.2.imp Nn id⟩
 ·rcases kW hb with q|q|q
  ·exact .inl (Nd q)
  ·exact (q3 b q).imp Nn id
  ·exact .inl (Np q)
theorem Oj.nQ(t:Oj B W hg v1 v2 v3 c1 c2 c3 l1 l2 l3)(hK:∀b∈c1.bl++c2.bl++c3.bl,b∈K\/w.heap.size<=b)(hs:AZ (HC B w hg K) w W)(p:Ba B W hg 2 #[v1,v2,v3] c3 l W'):B9 B w hg K l1 l2 l W':=by
 obtain ⟨v',c',q1,q2,q3,q4,q5⟩:=p;have hn:∀b,(b=hg\/LU c3 b)->b=hg\/RU W c3 b:=fun b hb=>hb.imp id LU.uP
 refine B9.step t hK hs q5 (fun b hb=>?_) ⟨v1,v2,v',c1,c2,c',⟨q1,t.i1.beside t.i3 (Cj t.d13) t.CT q5 hn,t.i2.beside t.i3 (Cj t.d23) t.CT q5 hn,q2,t.d12,Cj (Ix (Cj t.d13) q3 t.i1),Cj (Ix (Cj t.d23) q3 t.i2)⟩,fun b hb=>?_⟩
 ·rcases hb with hb|hb
  ·exact .inl hb
  ·have k:=(LU.uP (w:=W) hb).kinds t.i3;exact .inr ⟨k.1,k.2.imp Np id⟩
 ·rcases kW hb with q|q|q
  ·exact .inl (Nd q)
  ·exact .inl (Nn q)
  ·exact (q3 b q).imp Np id
theorem Oj.Z13(t:Oj B W hg v1 v2 v3 c1 c2 c3 l1 l2 l3)(hK:∀b∈c1.bl++c2.bl++c3.bl,b∈K\/w.heap.size<=b)(hs:AZ (HC B w hg K) w W)(p:Q_ B W v1 c1 l W'):B9 B w hg K l l2 l3 W':=by
 obtain ⟨c',q1,q2,q3⟩:=p;have hn:∀b,RU W c1 b->b=hg\/RU W c1 b:=fun b hb=>.inr hb
 refine B9.step t hK hs q3 (fun b hb=>?_) ⟨v1,v2,v3,c',c2,c3,⟨q3.own t.CT (EG t.i1 t.CT),q1,t.i2.beside t.i1 t.d12 t.CT q3 hn,t.i3.beside t.i1 t.d13 t.CT q3 hn,by rw[q2];exact t.d12,by rw[q2];exact t.d13,t.d23⟩,fun b hb=>.inl (by rw[q2]at hb;exact hb)⟩;have k:=hb.kinds t.i1;exact .inr ⟨k.1,k.2.imp Nd id⟩
theorem Oj.xq(t:Oj B W hg v1 v2 v3 c1 c2 c3 l1 l2 l3)(hK:∀b∈c1.bl++c2.bl++c3.bl,b∈K\/w.heap.size<=b)(hs:AZ (HC B w hg K) w W)(p:Q_ B W v2 c2 l W'):B9 B w hg K l1 l l3 W':=by
 obtain ⟨c',q1,q2,q3⟩:=p;have hn:∀b,RU W c2 b->b=hg\/RU W c2 b:=fun b hb=>.inr hb
 refine B9.step t hK hs q3 (fun b hb=>?_) ⟨v1,v2,v3,c1,c',c3,⟨q3.own t.CT (EG t.i2 t.CT),t.i1.beside t.i2 (Cj t.d12) t.CT q3 hn,q1,t.i3.beside t.i2 t.d23 t.CT q3 hn,by rw[q2];exact t.d12,t.d13,by rw[q2];exact t.d23⟩,fun b hb=>.inl (by rw[q2]at hb;exact hb)⟩;have k:=hb.kinds t.i2;exact .inr ⟨k.1,k.2.imp Nn id⟩
theorem Oj.zZ(t:Oj B W hg v1 v2 v3 c1 c2 c3 l1 l2 l3)(hK:∀b∈c1.bl++c2.bl++c3.bl,b∈K\/w.heap.size<=b)(hs:AZ (HC B w hg K) w W)(p:Q_ B W v3 c3 l W'):B9 B w hg K l1 l2 l W':=by
 obtain ⟨c',q1,q2,q3⟩:=p;have hn:∀b,RU W c3 b->b=hg\/RU W c3 b:=fun b hb=>.inr hb
 refine B9.step t hK hs q3 (fun b hb=>?_) ⟨v1,v2,v3,c1,c2,c',⟨q3.own t.CT (EG t.i3 t.CT),t.i1.beside t.i3 (Cj t.d13) t.CT q3 hn,t.i2.beside t.i3 (Cj t.d23) t.CT q3 hn,q1,t.d12,by rw[q2];exact t.d13,by rw[q2];exact t.d23⟩,fun b hb=>.inl (by rw[q2]at hb;exact hb)⟩;have k:=hb.kinds t.i3;exact .inr ⟨k.1,k.2.imp Np id⟩
end
def pN(W W':World):Prop:=∀C u m,OQ 61 W C u m->OQ 61 W' C u m
theorem pN.of{W W':World}{hg k:Nat}{cs:Array Value}{v:Value}{c:Cw}{l l2:Qs}(h:BU B W v c l)(hh:W.heap[hg]?=some (.cells cs 116))(p:Ba B W hg k cs c l2 W'):pN W W':=fun C u m hu=>by
 obtain ⟨_,_,_,_,_,_,q5⟩:=p;exact Ct hu q5 (fun b hb=>PE hu h hh hb)
def On(l m:Qs)(i n:Nat):Qs:=l.take i++m++l.drop (i+n)
theorem jB(hg:Nat)(K:List Nat)(l1 l2 l3 m:Qs)(u:Value)(i n C:Nat)(tt:Int)(w W:World)(h:B9 B w hg K l1 l2 l3 W)(hB:B<=w.heap.size)(uL:tt-(i:Int)=(n:Int))(hi:i+n<=l1.length)(hu:OQ 61 W C u m)(hm:l1.length+m.length<=45000)(hb:m.any CF=false):
 Calls prog 133 #[.pointer (some ⟨hg,0,none⟩),.int .i64 (i:Int),.int .i64 tt,u,.int .i64 16777216] W fun e w'=>e=.returned (.tuple #[])/\B9 B w hg K (On l1 m i n) l2 l3 w'/\pN W w':=by
 obtain ⟨v1,v2,v3,c1,c2,c3,t,hK,hs⟩:=h;refine (Ji hg 0 #[v1,v2,v3] v1 u l1 m c1 i n C tt W t.CT rfl t.i1 (le_trans hB hs.size) uL hi hu hm hb).mono ?_;rintro e w' ⟨rfl,p⟩;exact ⟨rfl,t.nU hK hs p,pN.of t.i1 t.CT p⟩
theorem jO(hg:Nat)(K:List Nat)(l1 l2 l3 m:Qs)(u:Value)(i n C:Nat)(tt:Int)(w W:World)(h:B9 B w hg K l1 l2 l3 W)(hB:B<=w.heap.size)(uL:tt-(i:Int)=(n:Int))(hi:i+n<=l2.length)(hu:OQ 61 W C u m)(hm:l2.length+m.length<=45000)(hb:m.any CF=false):
 Calls prog 133 #[.pointer (some ⟨hg,1,none⟩),.int .i64 (i:Int),.int .i64 tt,u,.int .i64 16777216] W fun e w'=>e=.returned (.tuple #[])/\B9 B w hg K l1 (On l2 m i n) l3 w'/\pN W w':=by
 obtain ⟨v1,v2,v3,c1,c2,c3,t,hK,hs⟩:=h;refine (Ji hg 1 #[v1,v2,v3] v2 u l2 m c2 i n C tt W t.CT rfl t.i2 (le_trans hB hs.size) uL hi hu hm hb).mono ?_;rintro e w' ⟨rfl,p⟩;exact ⟨rfl,t.nu hK hs p,pN.of t.i2 t.CT p⟩
theorem gn(hg:Nat)(K:List Nat)(l1 l2 l3 m:Qs)(u:Value)(i n C:Nat)(tt:Int)(w W:World)(h:B9 B w hg K l1 l2 l3 W)(hB:B<=w.heap.size)(uL:tt-(i:Int)=(n:Int))(hi:i+n<=l3.length)(hu:OQ 61 W C u m)(hm:l3.length+m.length<=45000)(hb:m.any CF=false):
 Calls prog 133 #[.pointer (some ⟨hg,2,none⟩),.int .i64 (i:Int),.int .i64 tt,u,.int .i64 16777216] W fun e w'=>e=.returned (.tuple #[])/\B9 B w hg K l1 l2 (On l3 m i n) w'/\pN W w':=by
 obtain ⟨v1,v2,v3,c1,c2,c3,t,hK,hs⟩:=h;refine (Ji hg 2 #[v1,v2,v3] v3 u l3 m c3 i n C tt W t.CT rfl t.i3 (le_trans hB hs.size) uL hi hu hm hb).mono ?_;rintro e w' ⟨rfl,p⟩;exact ⟨rfl,t.nQ hK hs p,pN.of t.i3 t.CT p⟩
end
section
variable {B:Nat}
theorem BU.kind{w:World}{v:Value}{c:Cw}{l:Qs}(h:BU B w v c l){b:Nat}(hb:b∈c.bl):∃cs t,w.heap[b]?=some (.cells cs t)/\(t=166\/t=211\/t=61):=by
 unfold Cw.bl at hb;rcases List.mem_append.1 hb with hb|hb
 ·obtain ⟨_,cs,e⟩:=h.rowAt (by simpa using hb);exact ⟨cs,_,e,.inl rfl⟩
 ·cases hs:c.sq with
  |none=>rw[hs]at hb;cases hb
  |some p=>
   obtain ⟨g,t⟩:=p;obtain ⟨q,-⟩:=h.EL hs;rw[hs]at hb;obtain ⟨rv,hg,_,F,hF,_⟩:=q.obj;rcases List.mem_cons.1 hb with rfl|hb
   ·exact ⟨_,_,hg,.inr (.inl rfl)⟩
   ·obtain ⟨cs,e⟩:=(hF.rows b hb).2;exact ⟨cs,_,e,.inr (.inr rfl)⟩
theorem Gb.kind{w:World}{hg:Nat}{K:List Nat}{L:Qs}{H:List Bool}(h:Gb B w hg K L H){b:Nat}(hb:b∈K):∃cs t,w.heap[b]?=some (.cells cs t)/\(t=166\/t=211\/t=61):=by
 obtain ⟨v1,v2,v3,c1,c2,c3,h0,h1,h2,h3,_,_,_,rfl⟩:=h.ex;rcases kW hb with hb|hb|hb
 ·exact h1.kind hb
 ·exact h2.kind hb
 ·exact h3.kind hb
theorem HC.kind{w:World}{hg:Nat}{K:List Nat}{L:Qs}{H:List Bool}(h:Gb B w hg K L H){b:Nat}(hb:HC B w hg K b):∃cs t,w.heap[b]?=some (.cells cs t)/\(t=116\/t=249\/(b∈K/\(t=166\/t=211\/t=61))):=by
 rcases hb with rfl|⟨_,hb|⟨cs,hb⟩⟩
 ·obtain ⟨v1,v2,v3,c1,c2,c3,h0,_⟩:=h.ex;exact ⟨_,_,h0,.inl rfl⟩
 ·obtain ⟨cs,t,e,q⟩:=h.kind hb;exact ⟨cs,t,e,.inr (.inr ⟨hb,q⟩)⟩
 ·exact ⟨cs,_,hb,.inr (.inl rfl)⟩
theorem Gb.stays{S:Nat->Prop}{w w':World}{hg:Nat}{K:List Nat}{L:Qs}{H:List Bool}(h:Gb B w hg K L H)(st:AZ S w w')(hS:∀b,HC B w hg K b->¬S b):Gb B w' hg K L H:=by
 obtain ⟨v1,v2,v3,c1,c2,c3,h0,h1,h2,h3,d1,d2,d3,e⟩:=h.ex;have k:∀{v:Value} {c:Cw} {l:Qs},BU B w v c l->(∀b∈c.bl,b∈K)->∀b,RU w c b->¬S b:=fun i hk b hb=>hS b (.inr ⟨(hb.kinds i).1,(hb.kinds i).2.imp (hk b) id⟩)
 exact ⟨⟨v1,v2,v3,c1,c2,c3,st.own h0 (hS _ (.inl rfl)),h1.stays st (k h1 (fun b hb=>by rw[e];exact Nd hb)),h2.stays st (k h2 (fun b hb=>by rw[e];exact Nn hb)),h3.stays st (k h3 (fun b hb=>by rw[e];exact Np hb)),d1,d2,d3,e⟩,h.base,h.len⟩
end
section
variable {B:Nat}
instance (i k n:Int):Decidable (Fj i k n):=by unfold Fj;infer_instance
theorem jw(n:Nat):(replicate n ((0,1):Int × Int)).any CF=false:=by
 rw[List.any_eq_false];intro x hx;rw[List.eq_of_mem_replicate hx]
 decide
theorem af(H:List Bool):(DU H).length=H.length:=by unfold DU;rw[List.length_map]
def ge(H:List Bool)(m i n:Nat):List Bool:=H.take i++replicate m false++H.drop (i+n)
theorem nC{L m:Qs}{H:List Bool}{i n:Nat}(h:H.length=L.length):(ge H m.length i n).length=(On L m i n).length:=by
 unfold ge On;simp only[List.length_append,length_take,List.length_drop,List.length_replicate,h]
theorem sU{L m:Qs}{H:List Bool}{i n:Nat}(h:H.length=L.length):On (Bo L H) m i n=Bo (On L m i n) (ge H m.length i n):=by
 have e:Bo m (replicate m.length false)=m:=by
  unfold Bo;apply ext_getElem?
  intro j;rw[List.getElem?_zipWith];by_cases hj:j<m.length
  ·simp[hj]
  ·simp[hj]
 unfold On ge;rw[show Bo (L.take i++m++L.drop (i+n)) (H.take i++replicate m.length false++H.drop (i+n))=Bo (L.take i) (H.take i)++Bo m (replicate m.length false)++Bo (L.drop (i+n)) (H.drop (i+n)) from by
  unfold Bo;rw[List.zipWith_append (by simp[h]),List.zipWith_append (by simp[h])],e]
 unfold Bo;rw[List.take_zipWith,List.drop_zipWith]
theorem ss{H:List Bool}{m i n:Nat}:On (DU H) (replicate m (0,1)) i n=DU (ge H m i n):=by
 unfold On ge DU;simp only[List.map_append,List.map_take,List.map_drop,List.map_replicate];rfl
theorem Rs(hg:Nat)(K:List Nat)(L m:Qs)(H:List Bool)(i n C:Nat)(u:Value)(w:World)(h:Gb B w hg K L H)(hB:B<=w.heap.size)(hu:OQ 61 w C u m)(hi:i+n<=L.length)(hm:L.length+m.length<=45000)(hb:m.any CF=false):Calls prog 90 #[.pointer (some ⟨hg,0,none⟩),.int .i64 (i:Int),.int .i64 (n:Int),u] w fun e w'=>e=.returned (.int .i64 0)/\IR B w hg K (On L m i n) (ge H m.length i n) w':=by
 have HL:=AC (fun (w':World) (a:AA w w')=>R9 _ L H w' (h.v.later a));have HS:=AC (fun (w':World)=>DT (II (i:Int) (n:Int) L.length w' ⟨AD,AD,AD,AD⟩ AD));have HN:=AC (fun (w':World) (a:AA w w')=>Rq u m w' ((OQ.rq hu).later a) AD hb);have MI:(Bo L H).length=L.length:=O9 h.len;have aj:(DU H).length=L.length:=by rw[af,h.len]
 have H1:=AC (fun (W:World) (a:AA w W)=>(jB hg K L (Bo L H) (DU H) m u i n C ((i:Int)+(n:Int)) w W (h.tri.later a) hB AD hi (OQ.later a hu) hm hb).mono fun e w' ⟨k1,k2,k3⟩=>(⟨k1,k2,k3 _ _ _ (OQ.later a hu)⟩:_/\B9 B w hg K (On L m i n) (Bo L H) (DU H) w'/\OQ 61 w' C u m));have H2:=AC (fun (W:World) (t:B9 B w hg K (On L m i n) (Bo L H) (DU H) W) (o:OQ 61 W C u m)=>jO hg K _ (Bo L H) (DU H) m u i n C ((i:Int)+(n:Int)) w W t hB AD (by rw[MI];exact hi) o (by rw[MI];exact hm) hb);have H3:=AC (fun (W:World) (z:Value) (t:B9 B w hg K (On L m i n) (On (Bo L H) m i n) (DU H) W) (o:OQ 61 W 0 z (replicate m.length (0,1)))=>gn hg K _ _ (DU H) (replicate m.length (0,1)) z i n 0 ((i:Int)+(n:Int)) w W t hB AD (by rw[aj];exact hi) o (by rw[aj,List.length_replicate];exact hm) (jw _));have HR:Hid (∀(x:World) (v:Value),QR x v [(0,1)]->Calls prog 134 #[v,.int .i64 (m.length:Int)] x fun e w'=>∃z,e=.returned z/\AA x w'/\OQ 61 w' 0 z (replicate m.length (0,1))):=AC (fun x v hv=>by
  obtain ⟨A,cap,rfl,-⟩:=hv.form;refine (bT A cap (0,1) m.length x hv AD).mono ?_;rintro e w' ⟨z,k1,k2,k3⟩;exact ⟨z,k1,k2,OQ.wide (Nat.zero_le _) k3⟩)
 have HZ:Hid (∀(W:World),B9 B w hg K (On L m i n) (On (Bo L H) m i n) (On (DU H) (replicate m.length (0,1)) i n) W->IR B w hg K (On L m i n) (ge H m.length i n) W):=AC (fun W t=>t.done h.base (nC h.len) (sU h.len) ss);obtain ⟨A,cap,rfl,-⟩:=(OQ.rq hu).form;clear h hu hi hm hb hB MI aj;generalize On L m i n=l1 at *;generalize On (Bo L H) m i n=l2 at *;generalize On (DU H) (replicate m.length (0,1)) i n=l3 at *;generalize ge H m.length i n=h2 at *;generalize replicate m.length ((0,1):Int × Int)=rp at *;generalize m.length=M at *;generalize L.length=k at *;go_enter func90,ntmps90;go_wp2_with fail;refine (HL _ (AA.refl w)).mono ?_;rintro e w1 ⟨rfl,AJ⟩;have AG:=AJ;go_wp2_with fail;refine (HS _).mono ?_;rintro e w2 ⟨rfl,AL⟩;have AR:=AG.trans AL;go_wp2_with fail;refine (HN _ AR).mono ?_;rintro e w3 ⟨g,t,rfl,AX,-,-⟩;have sM:=AC (AR.trans AX);clear AX;go_wp2_with fail;refine (H1 w3 sM.out).mono ?_;rintro e w4 ⟨rfl,t1,o1⟩;have Oc:=AC (And.intro t1 o1);clear t1 o1;go_wp2_with fail;refine (H2 w4 Oc.out.1 Oc.out.2).mono ?_;rintro e w5 ⟨rfl,t2,-⟩;have Kw:=AC t2;clear t2;go_wp2_with fail;apply Wild.AP (10) [⟨6,56,undef,true,fun u w=>QR w u [(0,1)]⟩,⟨9,59,undef,true,fun u w=>OQ 61 w 0 u rp⟩] [⟨6,56,fun u w=>QR w u [(0,1)]⟩,⟨9,59,fun u w=>OQ 61 w 0 u rp⟩] rfl AY AY AY Ar AY
 case hstab=>
  intro c hc;rcases Cv hc with rfl|rfl
  ·intro v x y BE hv;exact (fun h k=>QR.later k h) BE hv
  ·intro v x y BE hv;exact (fun h k=>OQ.later h k) BE hv
 case hfix=>
  intro c hc;rcases Cv hc with rfl|rfl
  ·exact .inl rfl
  ·exact .inl rfl
 case hlex=>
  intro U hU;refine Hj ?_
  repeat (go_big_quiet_step (fail))
  exact wpQuiet_nil rfl
 case hstep=>
  intro j hj o ho;have CQ:j=0\/j=1:=by simp at hj;omega
  rcases CQ with rfl|rfl
  ·cases ho;refine ⟨rfl,fun g x hx hp=>?_⟩;clear hp;refine Bp ?_;refine Wild.Ea (v:=.slice (some ⟨x.heap.size,0,none⟩) 1 1) (w':=x.alloc (.cells #[.int .i64 0,.int .i64 1] 61)) (by simp[go_sem,execOp]) ((AA.refl x).alloc _) (OQ.rq (OQ.one (B:=0) (r:=(0,1)) (Nat.zero_le _) (Ae rfl)))
  ·cases ho;refine ⟨rfl,fun g x hx hp=>?_⟩;have p56:(fun u w=>QR w u [(0,1)]) (g 6) x:=hp _ (List.mem_of_getElem? (i:=0) rfl) (List.contains_iff_mem.1 AY);clear hp;refine Bp ?_;refine AO ?_ (Wild.Ai (HR x _ p56));simp[go_sem,execOp]
 case htail=>
  intro g u Aw Az;have Ec:AA w5 (later u):=⟨u,rfl⟩;generalize later u=w6 at *;clear u Az;obtain ⟨kF,-⟩:=Aw _ (List.mem_of_getElem? (i:=0) rfl);(try dsimp only at kF)
  obtain ⟨ZO,-⟩:=Aw _ (List.mem_of_getElem? (i:=1) rfl);(try dsimp only at ZO)
  clear Aw;refine DH ?_;generalize g 6=v56 at *;generalize g 9=v59 at *;have XL:=AC (And.intro (Kw.out.later Ec) ZO);clear kF ZO;go_wp2_with fail;refine (H3 w6 _ XL.out.1 XL.out.2).mono ?_;rintro e w7 ⟨rfl,t3,-⟩;have HF:=AC (HZ w7 t3);clear t3;go_wp2_with fail;go_ret;exact ⟨rfl,HF.out⟩
end
section
variable {B:Nat}
theorem cj(hg:Nat)(v1 v2 v3:Value)(c1 c2 c3:Cw)(l1 l2:Qs)(H:List Bool)(i:Int)(w:World)(t:Oj B w hg v1 v2 v3 c1 c2 c3 l1 l2 (DU H)):Calls prog 49 #[.pointer (some ⟨hg,0,none⟩),.int .i64 i] w fun e w'=>e=.returned (.bool (Nz H i))/\AA w w':=by
 obtain ⟨A1,n1,k1,rfl⟩:=t.i1.OL;obtain ⟨A2,n2,k2,rfl⟩:=t.i2.OL;obtain ⟨A3,n3,k3,rfl⟩:=t.i3.OL;have HL:=AC (fun (w':World) (a:AA w w')=>PU hg A1 A2 A3 n1 n2 n3 k1 k2 k3 w' (AB a t.CT));have i3:=t.i3;have hf:=iI;rcases oO H i with ⟨e,e2⟩|⟨e,e2⟩
 ·have HS:=AC (fun (w':World) (a:AA w w')=>NU _ c3 (DU H) i w' _ e (i3.later a));clear t i3 e e2
  cases hb:Nz H i with
  |false=>
   rw[hb]at HS;clear hb;go_enter func49,ntmps49;go_wp2_with fail;refine (HL _ (AA.refl w)).mono ?_;rintro e w2 ⟨rfl,AL⟩;have AR:=AL;go_wp2_with fail;refine (HS _ AR).mono ?_;rintro e w3 ⟨rfl,AX⟩;have An:=AR.trans AX;go_wp2_with fail;go_ret;exact ⟨rfl,BQ⟩
  |true=>
   rw[hb]at HS;clear hb;go_enter func49,ntmps49;go_wp2_with fail;refine (HL _ (AA.refl w)).mono ?_;rintro e w2 ⟨rfl,AL⟩;have AR:=AL;go_wp2_with fail;refine (HS _ AR).mono ?_;rintro e w3 ⟨rfl,AX⟩;have An:=AR.trans AX;go_wp2_with fail;go_ret;exact ⟨rfl,BQ⟩
 ·have HS:=AC (fun (w':World) (a:AA w w')=>NU _ c3 (DU H) i w' _ e (i3.later a));rw[e2];clear t i3 e e2;go_enter func49,ntmps49;go_wp2_with fail;refine (HL _ (AA.refl w)).mono ?_;rintro e w2 ⟨rfl,AL⟩;have AR:=AL;go_wp2_with fail;refine (HS _ AR).mono ?_;rintro e w3 ⟨rfl,AX⟩;have An:=AR.trans AX;go_wp2_with fail;go_ret;exact ⟨rfl,BQ⟩
theorem B9.from{w w1 w':World}{hg:Nat}{K:List Nat}{l1 l2 l3:Qs}(a:AA w w1)(h:B9 B w1 hg K l1 l2 l3 w'):B9 B w hg K l1 l2 l3 w':=by
 obtain ⟨v1,v2,v3,c1,c2,c3,t,hk,hs⟩:=h;refine ⟨v1,v2,v3,c1,c2,c3,t,fun b hb=>(hk b hb).imp id (fun q=>le_trans a.below.size q),(AZ.of a).more hs (fun b hb=>?_)⟩;rcases hb with hb|⟨h1,hb|⟨cs,hb⟩⟩
 ·exact .inl (.inl hb)
 ·exact .inl (.inr ⟨h1,.inl hb⟩)
 ·rcases Nat.lt_or_ge b w.heap.size with q|q
  ·exact .inl (.inr ⟨h1,.inr ⟨cs,(a.below.block b q).symm.trans hb⟩⟩)
  ·exact .inr q
theorem B9.box{w w':World}{hg s:Nat}{K:List Nat}{l1 l2 l3:Qs}{cs:Array Value}(h:B9 B w hg K l1 l2 l3 w')(hs:w.heap[s]?=some (.cells cs 61))(h1:s≠hg)(h2:s∉K):w'.heap[s]?=some (.cells cs 61):=by
 obtain ⟨v1,v2,v3,c1,c2,c3,t,hk,st⟩:=h;refine st.own hs (fun c=>?_);rcases c with c|⟨_,c|⟨La,c⟩⟩
 ·exact h1 c
 ·exact h2 c
 ·exact F_ c hs
theorem LW{L:Qs}{H:List Bool}{j:Nat}:(Bo L H)[j]?=match L[j]?,H[j]? with|some x,some h=>some (if h then (0,0) else x)|_,_=>none:=by
 unfold Bo;rw[List.getElem?_zipWith];cases L[j]? <;> cases H[j]? <;> rfl
theorem WH{L:Qs}{H:List Bool}{j:Nat}{x:Int × Int}(h:H[j]?=some true):Bo (L.set j x) H=Bo L H:=by
 apply ext_getElem?
 intro k;rw[LW,LW,getElem?_set];by_cases e:j=k
 ·subst e;rw[h];by_cases hj:j<L.length
  ·simp[hj]
  ·simp[hj]
 ·simp[e]
theorem UM{L:Qs}{H:List Bool}{j:Nat}{x:Int × Int}(h:H[j]?=some false):Bo (L.set j x) H=(Bo L H).set j x:=by
 apply ext_getElem?
 intro k;rw[LW,getElem?_set,getElem?_set,LW];by_cases e:j=k
 ·subst e;have hl:(Bo L H).length=min L.length H.length:=by unfold Bo;rw[List.length_zipWith]
  have hH:j<H.length:=(List.getElem?_eq_some_iff.1 h).1;rw[h];by_cases hj:j<L.length
  ·have:j<(Bo L H).length:=by rw[hl];omega
   simp[hj,this]
  ·have:¬j<(Bo L H).length:=by rw[hl];omega
   simp[hj,this]
 ·simp[e]
theorem Vn{H:List Bool}{j:Nat}(h:j<H.length):H[j]?=some (Nz H (j:Int)):=by
 unfold Nz;rw[dif_pos ⟨AD,AD⟩];simp[h]
theorem SY{l:Qs}{i:Int}{x:Int × Int}(h:IU l i x=0):0<=i/\i<l.length/\CF x=false/\Fd l i x=l.set i.toNat x:=by
 have e:Fd l i x=l.set i.toNat x:=by unfold Fd;rw[if_pos h]
 unfold IU at h;split at h
 ·cases h
 ·rename_i k
  have k:=Decidable.not_not.1 k;split at h
  ·cases h
  ·rename_i q
   exact ⟨k.1,k.2,by simpa using q,e⟩
theorem Ky{l:Qs}{i:Int}{x:Int × Int}(h:0<=i/\i<l.length)(hx:CF x=false):IU l i x=0/\Fd l i x=l.set i.toNat x:=by
 have e:IU l i x=0:=by unfold IU;rw[if_neg (fun c=>c h),hx];rfl
 exact ⟨e,by unfold Fd;rw[if_pos e]⟩
theorem X7(hg:Nat)(K:List Nat)(L:Qs)(H:List Bool)(i x y:Int)(w:World)(h:Gb B w hg K L H):Calls prog 108 #[.pointer (some ⟨hg,0,none⟩),.int .i64 i,.agg #[.int .i64 x,.int .i64 y]] w fun e w'=>e=.returned (.int .i64 (IU L i (x,y)))/\IR B w hg K (Fd L i (x,y)) H w':=by
 have xG:=h.mB;have ua:=h.lt;obtain ⟨v1,v2,v3,c1,c2,c3,t,hK,-⟩:=h.tri;have hlen:=h.len;have OY:=h.base;obtain ⟨A1,n1,k1,rfl⟩:=t.i1.OL;obtain ⟨A2,n2,k2,rfl⟩:=t.i2.OL;obtain ⟨A3,n3,k3,rfl⟩:=t.i3.OL;have hK':∀b∈c1.bl++c2.bl++c3.bl,b∈K:=fun b hb=>(hK b hb).resolve_right (fun q=>by
  have:b<w.heap.size:=by
   rcases kW hb with k|k|k
   ·exact (t.i1.OE k).2
   ·exact (t.i2.OE k).2
   ·exact (t.i3.OE k).2
  omega)
 have H1:=AC (fun (W:World) (a:AA w W)=>(LN _ c1 L i x y W (t.i1.later a)).mono fun e W' ⟨q1,q2⟩=>(⟨q1,Oj.Z13 (w:=W) ⟨AB a t.CT,t.i1.later a,t.i2.later a,t.i3.later a,t.d12,t.d13,t.d23⟩ (fun b hb=>.inl (hK' b hb)) (AZ.refl _ _) q2⟩:_/\B9 B W hg K (Fd L i (x,y)) (Bo L H) (DU H) W'));have HD:Hid (∀(W W':World) (m2:Qs),AA w W->B9 B W hg K (Fd L i (x,y)) m2 (DU H) W'->m2=Bo (Fd L i (x,y)) H->IR B w hg K (Fd L i (x,y)) H W'):=AC (fun W W' m2 a q e=>(B9.from a q).done OY (by rw[hlen];unfold Fd;split <;> simp) e rfl);have pD:Hid (∀(W W':World) (l1 l2 l3:Qs),AA w W->W.heap[w.heap.size]?=some (.cells #[.int .i64 x,.int .i64 y] 61)->B9 B W hg K l1 l2 l3 W'->W'.heap[w.heap.size]?=some (.cells #[.int .i64 x,.int .i64 y] 61)):=AC (fun W W' l1 l2 l3 a hb q=>q.box hb AD (fun c=>by have:=(xG _ c).2;omega));have HC0:Hid (IU L i (x,y)≠0->Bo L H=Bo (Fd L i (x,y)) H):=AC (fun e=>by unfold Fd;rw[if_neg e]);have Z0:Hid (IU L i (x,y)=0->Nz H i=true->Bo L H=Bo (Fd L i (x,y)) H):=AC (fun e k=>by
  obtain ⟨a,b,_,e2⟩:=SY e;obtain ⟨j,rfl⟩:=Int.eq_ofNat_of_zero_le a;rw[e2,Int.toNat_natCast,WH (by rw[Vn AD,k])])
 have yx:Hid (IU L i (x,y)=0->Nz H i=false->Fd (Bo L H) i (x,y)=Bo (Fd L i (x,y)) H):=AC (fun e k=>by
  obtain ⟨a,b,c,e2⟩:=SY e;rw[(Ky (l:=Bo L H) ⟨a,by rw[O9 hlen];exact b⟩ c).2];obtain ⟨j,rfl⟩:=Int.eq_ofNat_of_zero_le a;rw[e2,Int.toNat_natCast,UM (by rw[Vn AD,k])])
 have Ag:=t.CT;clear h t hK hK' xG hlen OY;generalize Fd L i (x,y)=L2 at *;generalize Eu:IU L i (x,y)=cc at *;clear Eu;go_enter func108,ntmps108;go_wp2_with fail;refine JL w (w.heap.size) (.cells #[.int .i64 x,.int .i64 y] 61) ?_;intro w1 AJ Aq;have AG:=AJ;have AH:=AB AJ Ag;apply Ac (6) [] AY AY Ar
 case hstab=>
  intro e he v x y BE hv;simp only[mem_cons,not_mem_nil,or_false]at he
 case hlex=>
  intro U;have q0:=fun (v:BA (later U))=>AE (AB ⟨v,rfl⟩ (AB ⟨U,rfl⟩ AH))
  have q1:=fun (v:BA (later U))=>AE (AB ⟨v,rfl⟩ (AB ⟨U,rfl⟩ Aq))
  refine Ku ?_
  repeat (go_big_quiet_step (fail))
  exact wpQuiet_nil rfl
 case hown=>
  intro e he o ho;simp only[mem_cons,not_mem_nil,or_false]at he
 case htail=>
  intro g u Aw Az;have AL:AA w1 (later u):=⟨u,rfl⟩;generalize later u=w2 at *;clear u;clear Aw Az;refine DH ?_;have AR:=AG.trans AL;have AU:=AB AL AH;have BH:=AB AL Aq;obtain ⟨BS,Dj,GV⟩:=GH AU;obtain ⟨Gl,OO,Qy⟩:=GH BH;go_wp2_with fail;refine (H1 w2 AR).mono ?_;rintro e w3 ⟨rfl,t3⟩;have BD:=pD w2 w3 _ _ _ AR BH t3;have Mf:=AC AR;have XL:=AC t3;clear t3;by_cases hc:cc=0
  ·subst hc;obtain ⟨u1,u2,u3,d1,d2,d3,t,O4,aj⟩:=XL.out;have HH:=AC (fun (W:World) (a:AA w3 W)=>cj hg u1 u2 u3 d1 d2 d3 _ _ H i W ⟨AB a t.CT,t.i1.later a,t.i2.later a,t.i3.later a,t.d12,t.d13,t.d23⟩);have H2:=AC (fun (W:World) (a:AA w3 W)=>(LN u2 d2 (Bo L H) i x y W (t.i2.later a)).mono fun e W' ⟨q1,q2⟩=>(⟨q1,Oj.xq (w:=w2) ⟨AB a t.CT,t.i1.later a,t.i2.later a,t.i3.later a,t.d12,t.d13,t.d23⟩ O4 (aj.later a) q2⟩:_/\B9 B w2 hg K L2 (Fd (Bo L H) i (x,y)) (DU H) W'));have Ah:=t.CT;obtain ⟨A1,n1,k1,rfl⟩:=t.i1.OL;obtain ⟨A2,n2,k2,rfl⟩:=t.i2.OL;obtain ⟨A3,n3,k3,rfl⟩:=t.i3.OL;have An:=AA.refl w3;clear t O4 aj AU BH BS Gl Dj OO GV Qy AH Aq
   cases hb:Nz H i with
   |true=>
    have HZ:=AC (HD _ _ _ Mf XL (Z0 rfl hb));rw[hb]at HH;clear hb;go_wp2_with fail;refine (HH _ An).mono ?_;rintro e w4 ⟨rfl,Ao⟩;have Bl:=An.trans Ao;have BK:=AB Ao Ah;have CE:=AB Ao BD;go_wp2_with fail;go_ret;refine ⟨rfl,?_⟩;obtain ⟨K',k1,k2,k3⟩:=HZ.out;exact ⟨K',k1.later Bl,k2,k3.later Bl⟩
   |false=>
    have HE:=AC (yx rfl hb);rw[hb]at HH;clear hb;go_wp2_with fail;refine (HH _ An).mono ?_;rintro e w4 ⟨rfl,Ao⟩;have Bl:=An.trans Ao;have BK:=AB Ao Ah;have CE:=AB Ao BD;go_wp2_with fail;apply Ac (6) [] AY AY Ar
    case hstab=>
     intro e he v x y BE hv;simp only[mem_cons,not_mem_nil,or_false]at he
    case hlex=>
     intro U;have q0:=fun (v:BA (later U))=>AE (AB ⟨v,rfl⟩ (AB ⟨U,rfl⟩ BK))
     have q1:=fun (v:BA (later U))=>AE (AB ⟨v,rfl⟩ (AB ⟨U,rfl⟩ CE))
     refine Ku ?_
     repeat (go_big_quiet_step (fail))
     exact wpQuiet_nil rfl
    case hown=>
     intro e he o ho;simp only[mem_cons,not_mem_nil,or_false]at he
    case htail=>
     intro g u Aw Az;have Bd:AA w4 (later u):=⟨u,rfl⟩;generalize later u=w5 at *;clear u;clear Aw Az;refine DH ?_;have DW:=Bl.trans Bd;go_wp2_with fail;refine (H2 w5 DW).mono ?_;rintro e w6 ⟨rfl,t6⟩;have HZ:=AC (HD _ _ _ Mf t6 HE.out);clear t6;go_wp2_with fail;go_ret;exact ⟨rfl,HZ.out⟩
  ·have HZ:=AC (HD _ _ _ Mf XL (HC0 hc));have uM:(cc == 0)=false:=by simpa using hc
   clear AU BH BS Gl Dj OO GV Qy AH Aq;go_wp2_with fail;go_ret;exact ⟨rfl,HZ.out⟩
end
end Go.Proofs.YtamhnffokoejjaaGreatDoor
