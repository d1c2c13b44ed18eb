import Derived.Test.YtamhnffokoejjaaGreatDoorKwbs
set_option linter.all false
set_option maxHeartbeats 12800000
set_option maxRecDepth 100000
namespace Go.Proofs.YtamhnffokoejjaaGreatDoor
open List(mem_of_getElem? length_take lookup length_append)
open Nat(reduceLeDiff reduceAdd le_trans zero_le)
open Go.Proofs.Tryz
open Go.RowKit
section
theorem MR{al:List Hy}{l2:List Nat}{L:Nat->Bool}(k:Nat)(e:Hy){R:Prop}(he:al[k]?=some e)(hp:l2.contains e.s=true)(h:L e.i=true->R):(∀e∈al,e.s∈l2->L e.i=true)->R:=fun q=>h (q e (mem_of_getElem? he) (List.contains_iff_mem.1 hp))
def Wr(l:List Int)(c:Int)(z:Value)(y:World):Prop:=∃u,z=.tuple #[u,.int .i64 c]/\RT .u8 5 y u l
theorem Wr.later{l:List Int}{c:Int}{z:Value}{y y':World}(a:AA y y')(h:Wr l c z y):Wr l c z y':=by
 obtain ⟨u,h1,h2⟩:=h;exact ⟨u,h1,h2.later a⟩
structure Mb(P0 P1:World->Prop)(b G:List Int)(c:Int)(L5 L7 L8 L9 Q0 PD RG RS:Bool)(g5 g7 g8 g9 g10 g11 g12 g13:Value)(x:World):Prop where
 p0:L8=false->P0 x/\L9=false/\Q0=false/\PD=false/\RG=false/\RS=false
 p1:L8=true->P1 x/\Wr G c g8 x
 e5:L5=true->lz g5 x
 e7:L7=true->L8=false->RT .u8 5 x g7 b
 e9:L9=true->Wr G c g9 x
 e10:Q0=true->RT .u8 5 x g10 G
 yF:PD=true->g11=.int .i64 c
 tY:RG=true->RT .u8 5 x g12 G
 mG:RS=true->g13=.int .i64 c
section
variable {P0 P1:World->Prop}{b G:List Int}{c:Int}{L5 L7 L8 L9 Q0 PD RG RS:Bool}{g5 g7 g8 g9 g10 g11 g12 g13:Value}{x x':World}
theorem Mb.later(h:Mb P0 P1 b G c L5 L7 L8 L9 Q0 PD RG RS g5 g7 g8 g9 g10 g11 g12 g13 x)(a:AA x x')(h0:P0 x->P0 x')(h1:P1 x->P1 x'):Mb P0 P1 b G c L5 L7 L8 L9 Q0 PD RG RS g5 g7 g8 g9 g10 g11 g12 g13 x':=
 ⟨fun q=>⟨h0 (h.p0 q).1,(h.p0 q).2⟩,fun q=>⟨h1 (h.p1 q).1,(h.p1 q).2.later a⟩,h.e5,fun q r=>(h.e7 q r).later a,fun q=>(h.e9 q).later a,fun q=>(h.e10 q).later a,h.yF,fun q=>(h.tY q).later a,h.mG⟩
theorem Mb.s5(h:Mb P0 P1 b G c L5 L7 L8 L9 Q0 PD RG RS g5 g7 g8 g9 g10 g11 g12 g13 x){u:Value}(hu:lz u x):Mb P0 P1 b G c true L7 L8 L9 Q0 PD RG RS u g7 g8 g9 g10 g11 g12 g13 x:={h with e5:=fun _=>hu}
theorem Mb.s7(h:Mb P0 P1 b G c L5 L7 L8 L9 Q0 PD RG RS g5 g7 g8 g9 g10 g11 g12 g13 x){u:Value}(hu:RT .u8 5 x u b):Mb P0 P1 b G c L5 true L8 L9 Q0 PD RG RS g5 u g8 g9 g10 g11 g12 g13 x:={h with e7:=fun _ _=>hu}
theorem Mb.s8(h:Mb P0 P1 b G c L5 L7 L8 L9 Q0 PD RG RS g5 g7 g8 g9 g10 g11 g12 g13 x)(h8:L8=false){u:Value}(h1:P1 x')(hu:Wr G c u x'):Mb P0 P1 b G c L5 L7 true L9 Q0 PD RG RS g5 g7 u g9 g10 g11 g12 g13 x':=by
 obtain ⟨-,q9,q10,q11,q12,q13⟩:=h.p0 h8;exact ⟨fun q=>(by cases q),fun _=>⟨h1,hu⟩,h.e5,fun _ q=>(by cases q),fun q=>(by rw[q9]at q;cases q),fun q=>(by rw[q10]at q;cases q),h.yF,fun q=>(by rw[q12]at q;cases q),h.mG⟩
theorem Mb.s9(h:Mb P0 P1 b G c L5 L7 L8 L9 Q0 PD RG RS g5 g7 g8 g9 g10 g11 g12 g13 x)(h8:L8=true):Mb P0 P1 b G c L5 L7 L8 true Q0 PD RG RS g5 g7 g8 g8 g10 g11 g12 g13 x:={h with p0:=fun q=>(by rw[h8]at q;cases q),e9:=fun _=>(h.p1 h8).2}
theorem Mb.yY(h:Mb P0 P1 b G c L5 L7 L8 L9 Q0 PD RG RS g5 g7 g8 g9 g10 g11 g12 g13 x)(h9:L9=true\/Q0=true\/PD=true):L8=true:=by
 cases L8 with
 |true=>rfl
 |false=>
  obtain ⟨-,q9,q10,q11,-⟩:=h.p0 rfl;rcases h9 with q|q|q
  ·rw[q9]at q;cases q
  ·rw[q10]at q;cases q
  ·rw[q11]at q;cases q
theorem Mb.s10(h:Mb P0 P1 b G c L5 L7 L8 L9 Q0 PD RG RS g5 g7 g8 g9 g10 g11 g12 g13 x)(h9:L9=true){u:Value}(hu:RT .u8 5 x u G):Mb P0 P1 b G c L5 L7 L8 L9 true PD RG RS g5 g7 g8 g9 u g11 g12 g13 x:={h with p0:=fun q=>(by rw[h.yY (.inl h9)]at q;cases q),e10:=fun _=>hu}
theorem Mb.s11(h:Mb P0 P1 b G c L5 L7 L8 L9 Q0 PD RG RS g5 g7 g8 g9 g10 g11 g12 g13 x)(h9:L9=true):Mb P0 P1 b G c L5 L7 L8 L9 Q0 true RG RS g5 g7 g8 g9 g10 (.int .i64 c) g12 g13 x:={h with p0:=fun q=>(by rw[h.yY (.inl h9)]at q;cases q),yF:=fun _=>rfl}
theorem Mb.s12(h:Mb P0 P1 b G c L5 L7 L8 L9 Q0 PD RG RS g5 g7 g8 g9 g10 g11 g12 g13 x)(YM:Q0=true):Mb P0 P1 b G c L5 L7 L8 L9 Q0 PD true RS g5 g7 g8 g9 g10 g11 g10 g13 x:={h with p0:=fun q=>(by rw[h.yY (.inr (.inl YM))]at q;cases q),tY:=fun _=>h.e10 YM}
theorem Mb.s13(h:Mb P0 P1 b G c L5 L7 L8 L9 Q0 PD RG RS g5 g7 g8 g9 g10 g11 g12 g13 x)(h11:PD=true):Mb P0 P1 b G c L5 L7 L8 L9 Q0 PD RG true g5 g7 g8 g9 g10 g11 g12 g11 x:={h with p0:=fun q=>(by rw[h.yY (.inr (.inr h11))]at q;cases q),mG:=fun _=>h.yF h11}
end
theorem a_{B s:Nat}{x:ES}{m:Sc}(a o:Int)(v:Value)(i:List Int)(w:World)(h:KD B w s x m)(hg:RM B w)(hv:RT .u8 5 w v i)(hi:BX i)(ha:BO a)(ho:BO o)(tO:m.b.length+i.length<=900)(S6:m.ld<=900000000):
 Calls prog 30 #[.pointer (some ⟨s,0,none⟩),.int .i64 a,.int .i64 o,v] w fun e w'=>∃z,e=.returned z/\Wr (mq m a o i.length) (PK m a o i.length) z w'/\Ch B w w'/\∃x',KD B w' s x' (Zx m a o i):=by
 by_cases hc:PK m a o i.length=0
 ·have D4:=hc;unfold PK at D4;by_cases h1:Fj a o m.b.length
  ·rw[if_neg (by simpa using h1)]at D4;by_cases h2:m.most-((m.b.length:Int)-o)<(i.length:Int)
   ·rw[if_pos h2]at D4;exact absurd D4 (by decide)
   ·obtain ⟨q1,q2,q3,q4⟩:=h1;obtain ⟨a',rfl⟩:=Int.eq_ofNat_of_zero_le q1;obtain ⟨o',rfl⟩:=Int.eq_ofNat_of_zero_le q3;refine (cy a' o' v i w h hg hv hi AD AD tO S6).mono ?_;rintro e w' ⟨u,rfl,r1,r2,x',r3⟩;refine ⟨_,rfl,⟨u,by rw[hc],?_⟩,r2,x',?_⟩
    ·unfold mq;rw[if_pos hc];exact r1
    ·unfold Zx;rw[if_pos hc];exact r3
  ·rw[if_pos h1]at D4;exact absurd D4 (by decide)
 ·refine (jN a o v i w h hv.rn AD ho hc).mono ?_;rintro e w' ⟨rfl,r1⟩;refine ⟨_,rfl,⟨_,rfl,?_⟩,.of r1,x,?_⟩
  ·unfold mq;rw[if_neg hc];exact RT.nil _
  ·unfold Zx;rw[if_neg hc];exact h.later r1
theorem ZP{d:Nat}{v:DV}{m:Sc}(ok:m.Ok)(a o:Int)(vi:Value)(i:List Int)(w:World)(h:J9 w d v m)(hi:Lr w vi i)(sF:i.length<=900)(ho:BO o):
 Calls prog 59 #[.pointer (some ⟨d,0,none⟩),.int .i64 a,.int .i64 o,vi] w fun e w'=>∃u,e=.returned (.tuple #[u,.int .i64 (PK m a o i.length)])/\Lr w' u (mq m a o i.length)/\(∃v',J9 w' d v' (Zx m a o i))/\DC d w w':=by
 have hl:=ok.len;have hm:=ok.most;have hf:=ok.fl;by_cases hc:PK m a o i.length=0
 ·have D4:=hc;unfold PK at D4;by_cases h1:Fj a o m.b.length
  ·rw[if_neg (by simpa using h1)]at D4;by_cases h2:m.most-((m.b.length:Int)-o)<(i.length:Int)
   ·rw[if_pos h2]at D4;exact absurd D4 (by decide)
   ·obtain ⟨q1,q2,q3,q4⟩:=h1;obtain ⟨a',rfl⟩:=Int.eq_ofNat_of_zero_le q1;obtain ⟨o',rfl⟩:=Int.eq_ofNat_of_zero_le q3;refine (YQ a' o' vi i w h ok.sl hl AD hi sF AD AD AD (m.ld+((BC (Do m.b a' o' i) ((a'+i.length:Nat):Int)-BC m.b a'+1:Nat):Int))).mono ?_;rintro e w' ⟨u,rfl,r1,r2,r3⟩;refine ⟨u,by rw[hc],?_,?_,r3⟩
    ·unfold mq;rw[if_pos hc];exact r1
    ·unfold Zx;rw[if_pos hc];exact r2
  ·rw[if_pos h1]at D4;exact absurd D4 (by decide)
 ·refine (bN a o vi i w h AD hi sF ho AD hc).mono ?_;rintro e w' ⟨u,rfl,r1,r2⟩;refine ⟨u,rfl,?_,⟨v,?_⟩,DC.of r1 h⟩
  ·unfold mq;rw[if_neg hc];exact r2
  ·unfold Zx;rw[if_neg hc];exact h.later r1
theorem oK{B s d:Nat}{m:Sc}(A:IW)(W w:World)(h:DJ B w s d m m w)(ok:WS B m A s d)(hk:A.kind≠1/\A.kind≠2/\A.kind≠3/\A.kind≠4/\A.kind≠5)(oA:IW.Ok W A)(aW:AA W w)(mH:W.heap.size<=B):
 Calls prog 12 #[.pointer (some ⟨s,0,none⟩),.pointer (some ⟨d,0,none⟩),Ho A] w (qw B w s d (Zx m A.a A.n (A.b.take 30))):=by
 have bd:=ok.bd;have hl:=ok.len;have zD:(A.b.take 30).length<=30:=by rw[length_take];omega
 have wh:BX (A.b.take 30):=fun c hc=>oA.bb c (List.mem_of_mem_take hc)
 have uu:=AC (fun (y:World) (a:AA w y)=>VG A.vb A.b 30 y (oA.rb.later (aW.trans a)) AD);have HA:=AC (fun (k:Nat) (cs:Array Value) (y:World) (u u0:Value) (l0:List Int) (q:DJ B w s d m m y) (hk:y.heap[k]?=some (.cells cs 38)) (hu:RT .u8 5 y u (A.b.take 30)) (hu0:RT .u8 5 y u0 l0)=>(by
  obtain ⟨⟨x,q1⟩,-,q3,q4⟩:=id q;refine (a_ A.a A.n u (A.b.take 30) y q1 q3 hu wh ok.ia ok.mB AD ok.ld).mono ?_;rintro e y' ⟨z,rfl,r1,r2,x',r3⟩;exact ⟨z,rfl,r2.own hk LD,q.s r3 r2,hu0.ch r2 Jf,r1⟩:Calls prog 30 #[.pointer (some ⟨s,0,none⟩),.int .i64 A.a,.int .i64 A.n,u] y fun e y'=>∃z,e=.returned z/\y'.heap[k]?=some (.cells cs 38)/\DJ B w s d (Zx m A.a A.n (A.b.take 30)) m y'/\RT .u8 5 y' u0 l0/\Wr (mq m A.a A.n (A.b.take 30).length) (PK m A.a A.n (A.b.take 30).length) z y'))
 have HD:=AC (fun (y:World) (u u0:Value) (l0:List Int) (q:DJ B w s d (Zx m A.a A.n (A.b.take 30)) m y) (hu:RT .u8 5 y u (A.b.take 30)) (hu0:RT .u8 5 y u0 l0)=>(by
  obtain ⟨-,⟨v,q2⟩,q3,q4⟩:=id q;have IO:m.Ok:=by
   obtain ⟨⟨x0,p1⟩,-⟩:=h;exact p1.ok
  refine (ZP IO A.a A.n u (A.b.take 30) y q2 hu.rn AD ok.mB).mono ?_;rintro e y' ⟨u',rfl,r1,⟨v',r2⟩,r3⟩;exact ⟨u',rfl,r1,q.d bd r2 r3,hu0.dc r3 (by decide)⟩:Calls prog 59 #[.pointer (some ⟨d,0,none⟩),.int .i64 A.a,.int .i64 A.n,u] y fun e y'=>∃u',e=.returned (.tuple #[u',.int .i64 (PK m A.a A.n (A.b.take 30).length)])/\Lr y' u' (mq m A.a A.n (A.b.take 30).length)/\DJ B w s d (Zx m A.a A.n (A.b.take 30)) (Zx m A.a A.n (A.b.take 30)) y'/\RT .u8 5 y' u0 l0))
 have HP:=AC h;obtain ⟨kk,a,n,t,vb,vl,vf,b,l,f⟩:=A;obtain ⟨k1,k2,k3,k4,k5⟩:=hk;obtain ⟨Ab,cb,xO,-⟩:=oA.rb.form;simp only at xO uu HA HD k1 k2 k3 k4 k5 zD ⊢
 subst xO;obtain ⟨c,hc⟩:=BZ (PK m a n (b.take 30).length);rw[hc]at HA HD;clear h ok oA aW mH bd hl hc wh;generalize Zx m a n (b.take 30)=m' at *;generalize mq m a n (b.take 30).length=G at *;generalize b.take 30=b30 at *;generalize b.length=nb at *;have H30:=AC zD;have d1:(kk == 1)=false:=by simpa using k1
 have d2:(kk == 2)=false:=by simpa using k2
 have d3:(kk == 3)=false:=by simpa using k3
 have d4:(kk == 4)=false:=by simpa using k4
 have d5:(kk == 5)=false:=by simpa using k5
 clear k1 k2 k3 k4 k5 zD;unfold Ho J0;simp only
 go_enter func12,ntmps12;go_wp2_with fail;refine AQ (fun wS=>AA w wS/\wS.heap[w.heap.size]?=some (.cells #[.int .i64 kk,.int .i64 a,.int .i64 n,.int .i64 t,.slice Ab nb cb,vl,vf] 38)) ⟨BQ,CG⟩ ?_;rintro w1 ⟨AJ,AH⟩;have AG:=AJ;obtain ⟨B7,Eg⟩:=DX AH;have TO:=AC AH;refine (uu w1 AG).mono ?_;rintro e w2 ⟨u2,rfl,b2,o2⟩;have Ox:=AC (And.intro (HP.out.later (AJ.trans b2)) o2.rt);have AU:=AB b2 TO.out;obtain ⟨A2,c2,rfl,-⟩:=o2.rt.form;obtain ⟨n2,Fx⟩:=BZ (b30.length);rw[Fx]at Ox ⊢;clear o2 b2 AH B7 Eg Fx;obtain ⟨BS,Dj⟩:=DX AU;go_wp2_with fail;apply Whole.TJ (fun x=>x.heap[w.heap.size]?=some (.cells #[.int .i64 kk,.int .i64 a,.int .i64 n,.int .i64 t,.slice Ab nb cb,vl,vf] 38)) 14 [(5,undef),(7,undef),(8,undef),(9,undef),(10,undef),(11,undef),(12,undef),(13,undef)] [⟨5,28,fun _ _=>True⟩,⟨7,30,fun _ _=>True⟩,⟨8,31,fun _ _=>True⟩,⟨9,22,fun _ _=>True⟩,⟨10,32,fun _ _=>True⟩,⟨11,33,fun _ _=>True⟩,⟨12,13,fun _ _=>True⟩,⟨13,14,fun _ _=>True⟩] (fun L g x=>x.heap[w.heap.size]?=some (.cells #[.int .i64 kk,.int .i64 a,.int .i64 n,.int .i64 t,.slice Ab nb cb,vl,vf] 38)/\Mb (fun y=>DJ B w s d m m y/\RT .u8 5 y (.slice A2 n2 c2) b30) (fun y=>DJ B w s d m' m y/\RT .u8 5 y (.slice A2 n2 c2) b30) b30 G c (L 5) (L 7) (L 8) (L 9) (L 10) (L 11) (L 12) (L 13) (g 5) (g 7) (g 8) (g 9) (g 10) (g 11) (g 12) (g 13) x) AY AY AY Ar AY (fun L g x h=>h.1)
 case hcong=>
  intro L L' g x hc hI;have e0:=hc _ (mem_of_getElem? (i:=0) rfl);have e1:=hc _ (mem_of_getElem? (i:=1) rfl);have e2:=hc _ (mem_of_getElem? (i:=2) rfl);have e3:=hc _ (mem_of_getElem? (i:=3) rfl);have e4:=hc _ (mem_of_getElem? (i:=4) rfl);have e5:=hc _ (mem_of_getElem? (i:=5) rfl);have e6:=hc _ (mem_of_getElem? (i:=6) rfl);have e7:=hc _ (mem_of_getElem? (i:=7) rfl);dsimp only at e0 e1 e2 e3 e4 e5 e6 e7 ⊢;rw[<-e0,<-e1,<-e2,<-e3,<-e4,<-e5,<-e6,<-e7];exact hI
 case h0=>exact ⟨Df AU,⟨fun _=>⟨⟨Ox.out.1.later (AA.refl w2).drew,Ox.out.2.later (AA.refl w2).drew⟩,rfl,rfl,rfl,rfl,rfl⟩,fun q=>(by cases q),fun q=>(by cases q),fun q=>(by cases q),fun q=>(by cases q),fun q=>(by cases q),fun q=>(by cases q),fun q=>(by cases q),fun q=>(by cases q)⟩⟩
 case hlex=>
  intro U hU;have qU:=AE hU;simp only[actFrom,actOp,lookup,Nat.reduceBEq,reduceLeDiff,reduceAdd,if_false,if_true]
  repeat (go_big_quiet_step (fail))
  exact wpQuiet_nil rfl
 case hact=>
  intro jj WT o ho;have PA:jj=0\/jj=1\/jj=2\/jj=3\/jj=4\/jj=5\/jj=6\/jj=7:=by simp at WT;omega
  rcases PA with rfl|rfl|rfl|rfl|rfl|rfl|rfl|rfl
  ·cases ho;refine ⟨rfl,⟨_,mem_of_getElem? (i:=0) rfl,rfl⟩,fun L g x hI hL=>?_⟩;obtain ⟨hC,hI⟩:=hI;intro hS;clear hS;have a1:=(AA.refl x).alloc (.cells #[] 5);refine Bp ?_;exact Cb (u:=.slice (some ⟨x.heap.size,0,none⟩) 0 0) (w':=x.alloc (.cells #[] 5)) (by simp[go_sem,execOp]) ⟨AB a1 hC,(hI.later a1 (fun q=>⟨q.1.later a1,q.2.later a1⟩) (fun q=>⟨q.1.later a1,q.2.later a1⟩)).s5 ⟨_,rfl⟩⟩
  ·cases ho;refine ⟨rfl,⟨_,mem_of_getElem? (i:=1) rfl,rfl⟩,fun L g x hI hL=>?_⟩;obtain ⟨hC,hI⟩:=hI;refine Bp ?_;refine MR 0 ⟨5,28,fun _ _=>True⟩ rfl ?_ ?_
   ·kernel_rfl
   intro hd;dsimp only at hd;have zF:RT .u8 5 x (.slice A2 n2 c2) b30:=by
    cases h8:L 8 with
    |true=>exact (hI.p1 h8).1.2
    |false=>exact (hI.p0 h8).1.2
   obtain ⟨v',x',r1,r2,r3⟩:=Xv (hI.e5 hd) zF.rn (by have:=H30.out;omega);exact Whole.ET _ _ _ _ rfl _ _ rfl rfl r1 ⟨AB r2 hC,(hI.later r2 (fun q=>⟨q.1.later r2,q.2.later r2⟩) (fun q=>⟨q.1.later r2,q.2.later r2⟩)).s7 r3⟩
  ·cases ho;refine ⟨rfl,⟨_,mem_of_getElem? (i:=2) rfl,rfl⟩,fun L g x hI hL=>?_⟩;obtain ⟨hC,hI⟩:=hI;refine Bp ?_;refine MR 1 ⟨7,30,fun _ _=>True⟩ rfl ?_ ?_
   ·kernel_rfl
   intro hd;dsimp only at hd;have zF:=(hI.p0 hL).1;refine AO ?_ ((HA _ _ x (g 7) _ _ zF.1 hC (hI.e7 hd hL) zF.2).mono fun e y ⟨u,q1,q2,q3,q4,q5⟩=>⟨u,q1,q2,hI.s8 hL ⟨q3,q4⟩ q5⟩);simp[go_sem,execOp]
  ·cases ho;refine ⟨rfl,⟨_,mem_of_getElem? (i:=3) rfl,rfl⟩,fun L g x hI hL=>?_⟩;obtain ⟨hC,hI⟩:=hI;refine Bp ?_;refine MR 2 ⟨8,31,fun _ _=>True⟩ rfl ?_ ?_
   ·kernel_rfl
   intro hd;dsimp only at hd;exact Cb (u:=g 8) (w':=x) (by simp[go_sem,execOp]) ⟨hC,hI.s9 hd⟩
  ·cases ho;refine ⟨rfl,⟨_,mem_of_getElem? (i:=4) rfl,rfl⟩,fun L g x hI hL=>?_⟩;obtain ⟨hC,hI⟩:=hI;refine Bp ?_;refine MR 3 ⟨9,22,fun _ _=>True⟩ rfl ?_ ?_
   ·kernel_rfl
   intro hd;dsimp only at hd;obtain ⟨u,e1,e2⟩:=hI.e9 hd;exact Cb (u:=u) (w':=x) (by simp[go_sem,execOp,e1]) ⟨hC,hI.s10 hd e2⟩
  ·cases ho;refine ⟨rfl,⟨_,mem_of_getElem? (i:=5) rfl,rfl⟩,fun L g x hI hL=>?_⟩;obtain ⟨hC,hI⟩:=hI;refine Bp ?_;refine MR 3 ⟨9,22,fun _ _=>True⟩ rfl ?_ ?_
   ·kernel_rfl
   intro hd;dsimp only at hd;obtain ⟨u,e1,e2⟩:=hI.e9 hd;exact Cb (u:=.int .i64 c) (w':=x) (by simp[go_sem,execOp,e1]) ⟨hC,hI.s11 hd⟩
  ·cases ho;refine ⟨rfl,⟨_,mem_of_getElem? (i:=6) rfl,rfl⟩,fun L g x hI hL=>?_⟩;obtain ⟨hC,hI⟩:=hI;refine Bp ?_;refine MR 4 ⟨10,32,fun _ _=>True⟩ rfl ?_ ?_
   ·kernel_rfl
   intro hd;dsimp only at hd;exact Cb (u:=g 10) (w':=x) (by simp[go_sem,execOp]) ⟨hC,hI.s12 hd⟩
  ·cases ho;refine ⟨rfl,⟨_,mem_of_getElem? (i:=7) rfl,rfl⟩,fun L g x hI hL=>?_⟩;obtain ⟨hC,hI⟩:=hI;refine Bp ?_;refine MR 5 ⟨11,33,fun _ _=>True⟩ rfl ?_ ?_
   ·kernel_rfl
   intro hd;dsimp only at hd;exact Cb (u:=g 11) (w':=x) (by simp[go_sem,execOp]) ⟨hC,hI.s13 hd⟩
 case htail=>
  intro L gz y hI Ca;obtain ⟨hC,hI⟩:=hI;have e8:=Ca _ (mem_of_getElem? (i:=2) rfl);have tY:=Ca _ (mem_of_getElem? (i:=6) rfl);have mG:=Ca _ (mem_of_getElem? (i:=7) rfl);dsimp only at e8 tY mG;obtain ⟨⟨h1,h2⟩,-⟩:=hI.p1 e8;have h4:=hI.tY tY;have uj:=hI.mG mG;refine DH ?_;rw[uj];clear hI Ca e8 tY mG uj;generalize gz 12=u8 at *;have p8:=AC (HD y _ u8 G h1 h2 h4);have rD:=AE hC;clear h1 h2 h4 AU BS Dj;go_wp2_with fail;refine p8.out.mono ?_;rintro e z ⟨u9,rfl,q1,q2,q3⟩;have HZ:=AC q2;have st1:=RN.str q1;have st2:=RN.str q3.rn;clear q1 q2 q3;go_wp2_with fail;go_ret;exact ⟨rfl,HZ.out⟩
end
section
variable{B d i s:Nat}{m:Sc}
def yt(m:Sc)(A:IW):Sc:=if GF (A.l.take 40) then JE m (A.l.take 40) (A.f.take 20) else m
theorem Zn{r:Aa}{f:Qs}(h:GF r=true):MW m r f=(decide (BM (AM r)=r) && decide ((AM r).length=m.b.length) && BJ m.b.length 0 f):=by
 unfold GF at h;have h1:=of_decide_eq_true (Bool.and_eq_true_iff.1 h).1;unfold MW Cn;rw[GY AD]
def rS(i1 i2:Nat)(P0 P3:World->Prop)(I1 I2:Value->World->Prop):Nat->(Nat->Value)->World->Prop
 |0,_,x=>P0 x
 |1,g,x=>P0 x/\I1 (g i1) x
 |2,g,x=>P0 x/\I1 (g i1) x/\I2 (g i2) x
 |_,_,x=>P3 x
theorem gJ(A:IW)(W w:World)(h:DJ B w s d m m w)(ok:WS B m A s d)(hk:A.kind=5)(oA:IW.Ok W A)(aW:AA W w)(mH:W.heap.size<=B):
 Calls prog 12 #[.pointer (some ⟨s,0,none⟩),.pointer (some ⟨d,0,none⟩),Ho A] w (qw B w s d (yt m A)):=by
 have bd:=ok.bd;have HAW:Hid (∀(m1 m2:Sc) (y:World),DJ B w s d m1 m2 y->IW.Ok y A):=AC (fun m1 m2 y q=>oA.later (q.2.2.2.any W aW mH));have HR:=AC (fun (m1 m2:Sc) (k:Nat) (cs:Array Value) (y:World) (q:DJ B w s d m1 m2 y) (hk:y.heap[k]?=some (.cells cs 38))=>(by
  have o:=HAW m1 m2 y q;refine (dd A.vl A.l y o.rl).mono ?_;rintro e y' ⟨u,rfl,r1,r2⟩;exact ⟨u,rfl,AB r1 hk,q.later r1,r2.typed,o.nl.take 40,by rw[length_take];omega⟩:Calls prog 54 #[A.vl] y fun e y'=>∃u,e=.returned u/\y'.heap[k]?=some (.cells cs 38)/\DJ B w s d m1 m2 y'/\Cf y' u (A.l.take 40)))
 have HF:=AC (fun (m1 m2:Sc) (k:Nat) (cs:Array Value) (u0:Value) (y:World) (q:DJ B w s d m1 m2 y) (hk:y.heap[k]?=some (.cells cs 38)) (hu:Cf y u0 (A.l.take 40))=>(by
  have o:=HAW m1 m2 y q;refine (kq A.vf A.f y o.rf).mono ?_;rintro e y' ⟨u,rfl,r1,r2⟩;exact ⟨u,rfl,AB r1 hk,q.later r1,hu.later r1,r2⟩:Calls prog 55 #[A.vf] y fun e y'=>∃u,e=.returned u/\y'.heap[k]?=some (.cells cs 38)/\DJ B w s d m1 m2 y'/\Cf y' u0 (A.l.take 40)/\QT y' u (A.f.take 20)))
 have HSm:=AC (fun (y:World) (u:Value) (q:Cf y u (A.l.take 40))=>cK u (A.l.take 40) y _ rfl q.1.1 q.2.1 (by have:=q.2.2;omega));have sz:=AC (fun (hs:GF (A.l.take 40)=true) (y:World) (u:Value) (q:Cf y u (A.l.take 40))=>Xi u (A.l.take 40) y q.1.1 q.2.1 (by have:=q.2.2;omega) (of_decide_eq_true (Bool.and_eq_true_iff.1 hs).1));have rN:=AC (fun (hs:GF (A.l.take 40)=true) (y:World) (u:Value) (q:RI y u (AM (A.l.take 40)))=>Nl u _ y q (by have:=of_decide_eq_true (Bool.and_eq_true_iff.1 hs).1;omega));have tu:=AC (fun (hs:GF (A.l.take 40)=true) (y:World) (u u2:Value) (q:FH y u (BM (AM (A.l.take 40)))) (q2:Cf y u2 (A.l.take 40))=>dF u u2 _ _ y _ rfl q q2.1.1 (by have:=of_decide_eq_true (Bool.and_eq_true_iff.1 hs).1;have:=C5 (AM (A.l.take 40));omega));have HGo:=AC (fun (y:World) (u:Value) (q:QT y u (A.f.take 20))=>JV u (A.f.take 20) m.b.length _ y rfl q.1 (by rw[length_take];omega));have sI:(A.f.take 20).length<=100:=by rw[length_take];omega
 have HN:=AC (fun (hb:MW m (A.l.take 40) (A.f.take 20)=false) (u1 u2:Value) (k:Nat) (cs:Array Value) (y:World) (q:DJ B w s d m m y) (hk:y.heap[k]?=some (.cells cs 38)) (h1:Cf y u1 (A.l.take 40)) (h2:QT y u2 (A.f.take 20))=>(by
  obtain ⟨⟨x,q1⟩,-,q3,q4⟩:=id q;refine (bo u1 u2 _ _ y q1 h1 h2 sI hb).mono ?_;rintro e y' ⟨rfl,r1⟩;exact ⟨rfl,AB r1 hk,q.later r1⟩:Calls prog 20 #[.pointer (some ⟨s,0,none⟩),u1,u2] y fun e y'=>e=.returned (.int .i64 1)/\y'.heap[k]?=some (.cells cs 38)/\DJ B w s d m m y'))
 have HY:=AC (fun (hb:MW m (A.l.take 40) (A.f.take 20)=true) (m2:Sc) (u1 u2:Value) (k:Nat) (cs:Array Value) (y:World) (q:DJ B w s d m m2 y) (hk:y.heap[k]?=some (.cells cs 38)) (h1:Cf y u1 (A.l.take 40)) (h2:QT y u2 (A.f.take 20))=>(by
  obtain ⟨⟨x,q1⟩,-,q3,q4⟩:=id q;refine (Qo u1 u2 _ _ y q1 q3 h1 h2 sI hb ok.ld).mono ?_;rintro e y' ⟨rfl,x',r1,r2⟩;exact ⟨rfl,r2.own hk LD,q.s r1 r2⟩:Calls prog 20 #[.pointer (some ⟨s,0,none⟩),u1,u2] y fun e y'=>e=.returned (.int .i64 0)/\y'.heap[k]?=some (.cells cs 38)/\DJ B w s d (JE m (A.l.take 40) (A.f.take 20)) m2 y'))
 have HP:=AC h;have hEq:Hid (GF (A.l.take 40)=true->MW m (A.l.take 40) (A.f.take 20)=(decide (BM (AM (A.l.take 40))=A.l.take 40) && decide ((AM (A.l.take 40)).length=m.b.length) && BJ m.b.length 0 (A.f.take 20))):=AC (fun q=>Zn q);obtain ⟨kk,a,n,t,vb,vl,vf,b,l,f⟩:=A;obtain rfl:kk=5:=hk
 unfold yt;obtain ⟨Ab,cb,xO,-⟩:=oA.rb.form;obtain ⟨Al,cl,evl,-⟩:=oA.rl;obtain ⟨Af,cf,evf,-⟩:=oA.rf.form;simp only at xO evl evf HR HF HSm sz rN tu HGo HN HY hEq sI ⊢
 subst xO evl evf;clear h ok HAW oA aW mH;generalize l.take 40=lr at *;generalize f.take 20=fr at *;obtain ⟨m',hm'⟩:∃m',(if GF lr then JE m lr fr else m)=m':=⟨_,rfl⟩;rw[hm'];have HM':=AC hm';clear hm';generalize b.length=nb at *;generalize l.length=nl at *;generalize f.length=nff at *;unfold Ho J0;simp only
 go_enter func12,ntmps12;go_wp2_with fail;refine JL w (w.heap.size) (.cells #[.int .i64 5,.int .i64 a,.int .i64 n,.int .i64 t,.slice Ab nb cb,.slice Al nl cl,.slice Af nff cf] 38) ?_;intro w1 AJ AH;obtain ⟨B7,Eg⟩:=DX AH;have XV:=AC (HP.out.later AJ);obtain ⟨cA,hcA⟩:∃cA:Array Value,#[.int .i64 5,.int .i64 a,.int .i64 n,.int .i64 t,.slice Ab nb cb,.slice Al nl cl,.slice Af nff cf]=cA:=⟨_,rfl⟩;have HcA:=AC hcA;have s0c:w1.heap[w.heap.size]?=some (.cells cA 38):=by rw[<-hcA];exact AH
 clear hcA AH B7 Eg;apply CS 6 [(2,undef),(5,undef)] [⟨2,114,fun _ _=>True⟩,⟨5,117,fun _ _=>True⟩] (fun x=>x.heap[w.heap.size]?=some (.cells cA 38)) (rS 2 5 (DJ B w s d m m) (DJ B w s d m m) (fun u y=>Cf y u lr) (fun u y=>QT y u fr)) AY AY AY Ar AY (Df s0c) (fun _=>XV.out.later (AA.refl w1).drew)
 case hlex=>
  intro U hU;rw[<-HcA.out]at hU;have qU:=AE hU;simp only[actFrom,actOp,lookup,Nat.reduceBEq,reduceLeDiff,reduceAdd,if_false,if_true]
  repeat (go_big_quiet_step (fail))
  exact wpQuiet_nil rfl
 case hact=>
  intro jj WT o ho;have PA:jj=0\/jj=1:=by simp at WT;omega
  rcases PA with rfl|rfl
  ·cases ho;refine ⟨rfl,fun g x hC hS=>?_⟩;have D9:DJ B w s d m m x:=hS;refine Bp ?_;refine AO ?_ ((HR m m _ cA x D9 hC).mono fun e y ⟨u,q1,q2,q3,q4⟩=>⟨u,q1,q2,.inl ⟨_,mem_of_getElem? (i:=0) rfl,rfl⟩,q3,q4⟩);simp[go_sem,execOp]
  ·cases ho;refine ⟨rfl,fun g x hC hS=>?_⟩;obtain ⟨h1,h2⟩:DJ B w s d m m x/\Cf x (g 2) lr:=hS;refine Bp ?_;refine AO ?_ ((HF m m _ cA (g 2) x h1 hC h2).mono fun e y ⟨u,q1,q2,q3,q4,q5⟩=>⟨u,q1,q2,.inl ⟨_,mem_of_getElem? (i:=1) rfl,rfl⟩,q3,q4,q5⟩);simp[go_sem,execOp]
 case htail=>
  intro gz y hC hS;obtain ⟨h1,h2,h3⟩:DJ B w s d m m y/\Cf y (gz 2) lr/\QT y (gz 5) fr:=hS;refine DH ?_;generalize gz 2=u1 at *;generalize gz 5=u2 at *;have H1:=AC (And.intro h1 (And.intro h2 (And.intro h3 hC)));have hSm:=HSm y u1 h2;have Q10:=AC hSm;obtain ⟨A1,c1,e1,-⟩:=id h2.1.1;obtain ⟨A2,c2,e2,-⟩:=h3.1.form;subst e1 e2;generalize lr.length=n1 at *;generalize fr.length=n2 at *;clear h1 h2 h3 hC hSm;go_wp2_with fail;refine Q10.out.mono ?_;rintro e y2 ⟨rfl,b2⟩;have FA:=AC b2;clear b2;rcases pf:GF lr with _|_
  ·go_wp2_with fail;go_ret;rw[<-HM'.out,pf];exact ⟨rfl,H1.out.1.later FA.out⟩
  ·go_wp2_with fail;refine (sz pf y2 _ (H1.out.2.1.later FA.out)).mono ?_;rintro e y3 ⟨u3,rfl,b3,o3⟩;have Zo:=AC (And.intro (H1.out.1.later (FA.out.trans b3)) (And.intro (H1.out.2.1.later (FA.out.trans b3)) (And.intro (H1.out.2.2.1.later (FA.out.trans b3)) (And.intro (AB (FA.out.trans b3) H1.out.2.2.2) o3.rt))));obtain ⟨A3,c3,rfl,-⟩:=o3.rn.form;obtain ⟨v,hv⟩:=Zo.out.1.2.1;obtain ⟨Av,cv,ev,-⟩:=hv.b.form;have s1:=hv.CT;simp only[dC]at s1;rw[ev]at s1;have HV:=AC hv;have rE:=AC (hEq.out pf);have uk:=AC (rN pf y3 _ Zo.out.2.2.2.2.rn);have K15:=AC (fun y u u2=>tu pf y u u2);have ho4:=C5 (AM lr);obtain ⟨nx,zb⟩:=BZ ((AM lr).length);obtain ⟨nb2,sV⟩:=BZ (m.b.length);have qq:=AC (And.intro zb sV);rw[zb]at Zo uk rE ⊢;rw[sV]at rE s1 HGo;clear b3 o3 hv ev zb sV ho4
   go_upto_region 23 with fail
   go_cut [145] (fun v wx=>v=.bool (MW m lr fr)/\AA y3 wx)
   case first=>
    obtain ⟨r1,f1,l1⟩:=GH s1;go_wp2_with fail;refine uk.out.mono ?_;rintro e y4 ⟨u4,rfl,b4,o4⟩;have Y7:=AC b4;have HS4:=AC (K15 y4 u4 _ o4.reads (Zo.out.2.1.later b4));obtain ⟨A4,c4,rfl,-⟩:=id o4.reads;generalize (BM (AM lr)).length=n4 at *;have rU:=AB b4 s1;obtain ⟨zW,Z11,zV⟩:=GH rU;clear b4 o4 r1 f1 l1;go_wp2_with fail;refine HS4.out.mono ?_;rintro e y5 ⟨rfl,b5⟩;have uH:=AC (Y7.out.trans b5);have X12:=AB b5 rU;have J19:=AE X12;clear b5 zW Z11 zV rU;rcases Om:decide (BM (AM lr)=lr) with _|_
    ·rw[Om]at rE;go_wp2_with fail
     go_meet
     case rel=>exact ⟨by rw[rE.out];rfl,uH.out⟩
    ·rw[Om]at rE;by_cases D4:nx=nb2
     ·subst D4;go_wp2_with fail;refine (HGo y5 _ (Zo.out.2.2.1.later uH.out)).mono ?_;rintro e y6 ⟨rfl,b6⟩;have HB6:=AC (uH.out.trans b6);clear b6;go_wp2_with fail
      go_meet
      case rel=>exact ⟨by rw[rE.out];simp,HB6.out⟩
     ·have hc3:((nx:Int) == (nb2:Int))=false:=by simp;omega
      go_wp2_with fail
      go_meet
      case rel=>exact ⟨by rw[rE.out,decide_eq_false D4];rfl,uH.out⟩
   case rest=>
    obtain ⟨rfl,b6⟩:=hcut
    rename World=>y6
    have H6:=AC (And.intro (Zo.out.1.later b6) (AB b6 Zo.out.2.2.2.1));have uh:=AB b6 s1;have wm:=HV.out.later b6;have f6:=Zo.out.2.2.1.later b6;have x6:=Zo.out.2.2.2.2.later b6;rcases qR:MW m lr fr with _|_
    ·clear s1 b6 uh wm f6 x6;go_wp2_with fail;apply CS 9 [(3,undef),(6,undef),(7,.int .i64 1)] [⟨3,157,fun _ _=>True⟩,⟨6,160,fun _ _=>True⟩] (fun x=>x.heap[w.heap.size]?=some (.cells cA 38)) (rS 3 6 (DJ B w s d m m) (DJ B w s d m m) (fun u y=>Cf y u lr) (fun u y=>QT y u fr)) AY AY AY Ar AY (Df H6.out.2) (fun _=>H6.out.1.later (AA.refl _).drew)
     case hlex=>
      intro U hU;rw[<-HcA.out]at hU;have qU:=AE hU;simp only[actFrom,actOp,lookup,Nat.reduceBEq,reduceLeDiff,reduceAdd,if_false,if_true]
      repeat (go_big_quiet_step (fail))
      exact wpQuiet_nil rfl
     case hact=>
      intro jj WT o ho;have PA:jj=0\/jj=1\/jj=2:=by simp at WT;omega
      rcases PA with rfl|rfl|rfl
      ·cases ho;refine ⟨rfl,fun g x hC hS=>?_⟩;have D9:DJ B w s d m m x:=hS;refine Bp ?_;refine AO ?_ ((HR m m _ cA x D9 hC).mono fun e y ⟨u,q1,q2,q3,q4⟩=>⟨u,q1,q2,.inl ⟨_,mem_of_getElem? (i:=0) rfl,rfl⟩,q3,q4⟩);simp[go_sem,execOp]
      ·cases ho;refine ⟨rfl,fun g x hC hS=>?_⟩;obtain ⟨h1,h2⟩:DJ B w s d m m x/\Cf x (g 3) lr:=hS;refine Bp ?_;refine AO ?_ ((HF m m _ cA (g 3) x h1 hC h2).mono fun e y ⟨u,q1,q2,q3,q4,q5⟩=>⟨u,q1,q2,.inl ⟨_,mem_of_getElem? (i:=1) rfl,rfl⟩,q3,q4,q5⟩);simp[go_sem,execOp]
      ·cases ho;refine ⟨rfl,fun g x hC hS=>?_⟩;obtain ⟨h1,h2,h3⟩:DJ B w s d m m x/\Cf x (g 3) lr/\QT x (g 6) fr:=hS;refine Bp ?_;refine AO ?_ ((HN qR (g 3) (g 6) _ cA x h1 hC h2 h3).mono fun e y ⟨q1,q2,q3⟩=>⟨_,q1,q2,.inr rfl,q3⟩);simp[go_sem,execOp]
     case htail=>
      intro gy z hC hS;have D9:DJ B w s d m m z:=hS;have HZ:=AC D9;clear hS D9;refine DH ?_;generalize gy 3=y1 at *;generalize gy 6=y2 at *;go_wp2_with fail;go_ret;have e:m'=m:=by rw[<-HM'.out,pf];unfold JE;rw[qR];rfl
      rw[e];exact ⟨rfl,HZ.out⟩
    ·obtain ⟨m2,VR⟩:∃m2:Sc,{m with S:=AM lr,F:=fr}=m2:=⟨_,rfl⟩;have o_:=AC VR;have Rd:Hid (∀z,z=(y6.setCell ⟨d,1,none⟩ (.slice A3 nx c3)).setCell ⟨d,2,none⟩ (.slice A2 n2 c2)->DJ B w s d m m2 z/\z.heap[w.heap.size]?=some (.cells cA 38)):=AC (fun z e=>by
      obtain ⟨p1,p2⟩:=wm.set (v':={v with vs:=.slice A3 nx c3}) (m':={m with S:=AM lr}) (i:=1) (u:=.slice A3 nx c3) rfl (by simp[dC]) wm.b x6 wm.f;obtain ⟨p3,p4⟩:=p1.set (v':={v with vs:=.slice A3 nx c3,vf:=.slice A2 n2 c2}) (m':={m with S:=AM lr,F:=fr}) (i:=2) (u:=.slice A2 n2 c2) rfl (by simp[dC]) p1.b p1.s (f6.dc p2);rw[VR]at p3;rw[e];exact ⟨H6.out.1.d bd p3 (p2.trans p4),p4.own (p2.own H6.out.2 (by decide)) (by decide)⟩)
     obtain ⟨X20,J18⟩:=DX uh;clear s1 b6 wm f6 x6 VR;go_wp2_with fail;have H7:=AC (Rd _ rfl);clear Rd;generalize (y6.setCell ⟨d,1,none⟩ (.slice A3 nx c3)).setCell ⟨d,2,none⟩ (.slice A2 n2 c2)=y7 at *;apply CS 9 [(3,undef),(6,undef),(7,.int .i64 0)] [⟨3,157,fun _ _=>True⟩,⟨6,160,fun _ _=>True⟩] (fun x=>x.heap[w.heap.size]?=some (.cells cA 38)) (rS 3 6 (DJ B w s d m m2) (DJ B w s d (JE m lr fr) m2) (fun u y=>Cf y u lr) (fun u y=>QT y u fr)) AY AY AY Ar AY (Df H7.out.2) (fun _=>H7.out.1.later (AA.refl _).drew)
     case hlex=>
      intro U hU;rw[<-HcA.out]at hU;have qU:=AE hU;simp only[actFrom,actOp,lookup,Nat.reduceBEq,reduceLeDiff,reduceAdd,if_false,if_true]
      repeat (go_big_quiet_step (fail))
      exact wpQuiet_nil rfl
     case hact=>
      intro jj WT o ho;have PA:jj=0\/jj=1\/jj=2:=by simp at WT;omega
      rcases PA with rfl|rfl|rfl
      ·cases ho;refine ⟨rfl,fun g x hC hS=>?_⟩;have D9:DJ B w s d m m2 x:=hS;refine Bp ?_;refine AO ?_ ((HR m m2 _ cA x D9 hC).mono fun e y ⟨u,q1,q2,q3,q4⟩=>⟨u,q1,q2,.inl ⟨_,mem_of_getElem? (i:=0) rfl,rfl⟩,q3,q4⟩);simp[go_sem,execOp]
      ·cases ho;refine ⟨rfl,fun g x hC hS=>?_⟩;obtain ⟨h1,h2⟩:DJ B w s d m m2 x/\Cf x (g 3) lr:=hS;refine Bp ?_;refine AO ?_ ((HF m m2 _ cA (g 3) x h1 hC h2).mono fun e y ⟨u,q1,q2,q3,q4,q5⟩=>⟨u,q1,q2,.inl ⟨_,mem_of_getElem? (i:=1) rfl,rfl⟩,q3,q4,q5⟩);simp[go_sem,execOp]
      ·cases ho;refine ⟨rfl,fun g x hC hS=>?_⟩;obtain ⟨h1,h2,h3⟩:DJ B w s d m m2 x/\Cf x (g 3) lr/\QT x (g 6) fr:=hS;refine Bp ?_;refine AO ?_ ((HY qR m2 (g 3) (g 6) _ cA x h1 hC h2 h3).mono fun e y ⟨q1,q2,q3⟩=>⟨_,q1,q2,.inr rfl,q3⟩);simp[go_sem,execOp]
     case htail=>
      intro gy z hC hS;have D9:DJ B w s d (JE m lr fr) m2 z:=hS;have HZ:=AC D9;clear hS D9;refine DH ?_;generalize gy 3=y1 at *;generalize gy 6=y2 at *;go_wp2_with fail;go_ret;have e:m'=JE m lr fr:=by rw[<-HM'.out,pf];rfl
      rw[e];refine ⟨rfl,?_⟩;obtain ⟨z1,⟨v2,z2⟩,z3,z4⟩:=HZ.out;refine ⟨z1,⟨v2,?_⟩,z3,z4⟩;have e2:JE m lr fr={m2 with ld:=(JE m lr fr).ld}:=by
       unfold JE;rw[qR,<-o_.out,GY (by have:=of_decide_eq_true (Bool.and_eq_true_iff.1 pf).1;omega)];rfl
      rw[e2];exact z2.ld _
noncomputable def RE(m:Sc)(A:IW):Sc:=if A.kind=1 then Iw m A.a A.n A.t else if A.kind=2 then Ft m A.a A.n else if A.kind=3 then KC m A.a else if A.kind=4 then IX m A.n else if A.kind=5 then yt m A else Zx m A.a A.n (A.b.take 30)
theorem s_(A:IW)(W w:World)(h:DJ B w s d m m w)(ok:WS B m A s d)(oA:IW.Ok W A)(aW:AA W w)(mH:W.heap.size<=B):
 Calls prog 12 #[.pointer (some ⟨s,0,none⟩),.pointer (some ⟨d,0,none⟩),Ho A] w (qw B w s d (RE m A)):=by
 unfold RE;by_cases h1:A.kind=1
 ·rw[if_pos h1];exact lE A w h ok h1
 rw[if_neg h1];by_cases h2:A.kind=2
 ·rw[if_pos h2];exact pH A w h ok h2
 rw[if_neg h2];by_cases h3:A.kind=3
 ·rw[if_pos h3];exact eh A w h ok h3
 rw[if_neg h3];by_cases h4:A.kind=4
 ·rw[if_pos h4];exact dZ A w h ok h4
 rw[if_neg h4];by_cases h5:A.kind=5
 ·rw[if_pos h5];exact gJ A W w h ok h5 oA aW mH
 rw[if_neg h5];exact oK A W w h ok ⟨h1,h2,h3,h4,h5⟩ oA aW mH
theorem L4(b:List Int)(p:Int):BC b p<=b.length:=le_trans (FT _ _) (Dg b 0)
theorem jf(l:Qs)(y:Int):(FW l y).length<=l.length:=by
 unfold FW;split
 ·rw[length_append,length_take,List.length_drop];omega
 ·exact zero_le _
theorem jL(m:Sc)(A:IW)(hm:m.b.length<=960)(n:Nat)(hn:m.F.length<=n)(h20:20<=n):(RE m A).b.length<=m.b.length+30/\(RE m A).F.length<=n+1/\(RE m A).ld<=m.ld+1000/\(RE m A).most=m.most:=by
 have hf:=Dg m.b 0;have self:m.b.length<=m.b.length+30/\m.F.length<=n+1/\m.ld<=m.ld+1000/\m.most=m.most:=⟨AD,AD,AD,rfl⟩;unfold RE;split
 ·unfold Iw;split
  ·have:=L4 m.b A.n
   exact ⟨by simp only;omega,by simp only;omega,by simp only;omega,rfl⟩
  ·exact self
 split
 ·unfold Ft;split
  ·have:=W6 (A.a,A.n) m.F m.b.length
   exact ⟨by simp only;omega,by simp only;omega,by simp only;omega,rfl⟩
  ·exact self
 split
 ·unfold KC;split
  ·have:=jf m.F A.a
   exact ⟨by simp only;omega,by simp only;omega,by simp only;omega,rfl⟩
  ·exact self
 split
 ·unfold IX;split
  ·exact self
  ·exact ⟨by simp only;omega,by simp only;omega,by simp only;omega,rfl⟩
 split
 ·unfold yt;split
  ·unfold JE;split
   ·have l20:(A.f.take 20).length<=20:=by rw[length_take];omega
    have:Wg m (A.l.take 40)<=m.b.length+1:=by
     unfold Wg;split
     ·have:=L4 m.b (Og m.S (sR (A.l.take 40)):Nat)
      omega
     ·omega
    exact ⟨by simp only;omega,by simp only;omega,by simp only;omega,rfl⟩
   ·exact self
  ·exact self
 ·unfold Zx;split
  ·rename_i hc
   have zD:(A.b.take 30).length<=30:=by rw[length_take];omega
   have l1:(Do m.b A.a.toNat A.n.toNat (A.b.take 30)).length<=m.b.length+30:=by
    unfold Do;rw[length_append,length_append,length_take,List.length_drop];have D4:=hc;unfold PK at D4;by_cases hs:Fj A.a A.n m.b.length
    ·obtain ⟨q1,q2,q3,q4⟩:=hs;omega
    ·rw[if_pos hs]at D4;exact absurd D4 (by decide)
   have l2:=NR A.a A.n ((A.b.take 30).length) m.F;have l3:=L4 (Do m.b A.a.toNat A.n.toNat (A.b.take 30)) ((A.a.toNat+(A.b.take 30).length:Nat):Int);exact ⟨by simp only;omega,by simp only;omega,by simp only;omega,rfl⟩
  ·exact self
structure fm(m:Sc)(i:Nat):Prop where
 b:m.b.length<=80+30*i
 f:m.F.length<=20+i
 ld:m.ld<=1000*((i:Int)+1)
theorem fm.act(h:fm m i)(hi:i<25)(A:IW):fm (RE m A) (i+1):=by
 obtain ⟨h1,h2,h3⟩:=h;obtain ⟨q1,q2,q3,-⟩:=jL m A AD (20+i) h2 AD;exact ⟨AD,AD,by push_cast;omega⟩
theorem fm.J15(h:fm m i)(hi:i<25){B s d:Nat}(bd:B<=d){A:IW}{W:World}(oA:IW.Ok W A):WS B m A s d:=by
 obtain ⟨h1,h2,h3⟩:=h;exact ⟨bd,AD,AD,AD,oA.ia,oA.mB,oA.it⟩
theorem fm.new{b:List Int}(hb:b.length<=80)(most width:Int):fm (D_ b most width) 0:=by
 have hf:=Dg b 0;exact ⟨by unfold D_;simp only;omega,by unfold D_;simp,by unfold D_;simp only;omega⟩
noncomputable def Gk(m:Sc)(l:List IW):Sc:=l.foldl RE m
theorem Qp(m:Sc){l:List IW}{j:Nat}(h:j<l.length):Gk m (l.take (j+1))=RE (Gk m (l.take j)) l[j]:=by
 unfold Gk;rw[List.take_succ_eq_append_getElem h,List.foldl_append];rfl
theorem fm.AK{b:List Int}(hb:b.length<=80)(most width:Int)(l:List IW):∀j:Nat,j<=l.length->j<=25->fm (Gk (D_ b most width) (l.take j)) j
 |0,_,_=>by rw[List.take_zero];exact .new hb most width
 |j+1,h,h2=>by rw[Qp _ AD];exact (fm.AK hb most width l j AD AD).act AD _
theorem g_.at{w:World}{A:Option Addr}{n cap:Nat}{l:List IW}(h:g_ w (.slice A n cap) l){j:Nat}(hj:j<l.length):IW.Ok w l[j]/\∃b off,A=some ⟨b,off,none⟩/\w.cell? ⟨b,off+j*7,none⟩=some (.int .i64 l[j].kind)/\w.cell? ⟨b,off+j*7+1,none⟩=some (.int .i64 l[j].a)/\w.cell? ⟨b,off+j*7+2,none⟩=some (.int .i64 l[j].n)/\w.cell? ⟨b,off+j*7+3,none⟩=some (.int .i64 l[j].t)/\w.cell? ⟨b,off+j*7+4,none⟩=some l[j].vb/\w.cell? ⟨b,off+j*7+5,none⟩=some l[j].vl/\w.cell? ⟨b,off+j*7+6,none⟩=some l[j].vf:=by
 obtain ⟨A',DZ,e,h1,h2⟩:=h;cases e;obtain ⟨b,off,e2,-,hc⟩:=h2 AD;exact ⟨h1 j hj,b,off,e2,hc j hj 0 AD,hc j hj 1 AD,hc j hj 2 AD,hc j hj 3 AD,hc j hj 4 AD,hc j hj 5 AD,hc j hj 6 AD⟩
theorem xY{m0:Sc}{PB:List IW}{j:Nat}(hj:j<PB.length)(cm:j<25)(hF:fm (Gk m0 (PB.take j)) j)(bd:B<=d)(W w y:World)(oA:IW.Ok W PB[j])(h:DJ B w s d (Gk m0 (PB.take j)) (Gk m0 (PB.take j)) y)(aW:AA W w)(mH:W.heap.size<=B):
 Calls prog 12 #[.pointer (some ⟨s,0,none⟩),.pointer (some ⟨d,0,none⟩),Ho PB[j]] y fun e y'=>e=.returned (.bool true)/\DJ B w s d (Gk m0 (PB.take (j+1))) (Gk m0 (PB.take (j+1))) y'/\Kp B y y':=by
 obtain ⟨⟨x,h1⟩,⟨v,h2⟩,h3,h4⟩:=id h;have h':DJ B y s d (Gk m0 (PB.take j)) (Gk m0 (PB.take j)) y:=⟨⟨x,h1⟩,⟨v,h2⟩,h3,.of (AA.refl y)⟩;refine (s_ PB[j] W y h' (hF.J15 cm bd oA) oA (h4.any W aW mH) mH).mono fun e y' q=>?_
 obtain ⟨q1,q2,q3,q4,q5⟩:=q;rw[Qp m0 hj];exact ⟨q1,⟨q2,q3,q4,h4.trans q5⟩,q5⟩
end
section
section
set_option maxRecDepth 100000
end
theorem a7:Vr [97,98] 2:=⟨by decide,fun j hj=>by
 have:j=0\/j=1:=AD
 rcases this with rfl|rfl <;> decide⟩
theorem N2:(C6 6 [97,98] [0,0]).length=2/\GT (C6 6 [97,98] [0,0])=18:=by
 have e:XE [97,98]=2:=(LA (show BX [97,98] from by unfold BX;decide)).uniq a7;unfold C6;rw[e]
 decide
theorem Tb:(D_ [97,98] 9 6).wd=6/\Ap 0 [97,98]=[]/\Co (Bu 6) [97,98] [0,0]=[(2,18)]/\Be [97,98] []=[false]/\Fe (D_ [97,98] 9 6) 0=C6 6 [97,98] [0,0]:=by
 have e1:(D_ [97,98] 9 6).wd=6:=by decide
 have e2:Ap 0 [97,98]=[]:=by decide
 have l1:A_ [97,98] [97,98] 0=[97,98]:=by unfold A_;rw[e2];decide
 have l2:A_ [97,98] [0,0] 0=[0,0]:=by unfold A_;rw[e2];decide
 refine ⟨e1,e2,?_,?_,?_⟩
 ·unfold Co;rw[e2];show [Bu 6 (A_ [97,98] [97,98] 0) (A_ [97,98] [0,0] 0)]=_
  rw[l1,l2];unfold Bu;rw[N2.1,N2.2];rfl
 ·unfold Be;rw[e2];rfl
 ·unfold Fe;rw[if_pos ⟨AD,by show (0:Int)<=(((Ap 0 [97,98]).length:Nat):Int);rw[e2];decide⟩,e1];show C6 6 (A_ [97,98] [97,98] 0) (A_ [97,98] [0,0] 0)=_
  rw[l1,l2]
theorem nL(x y:Int)(w:World):(Instr.field 61 (.agg #[.int .i64 x,.int .i64 y]) 1).run prog w=.ok (.int .i64 y) w:=AY
theorem WE(w:World)(hg:Dh w):Calls prog 9 #[] w fun e w'=>e=.returned (.bool true)/\AA w w':=by
 have kc:=fun (w:World) (C:Array Value) (n c:Nat)=>Lib.run_convert_bytes_const (P:=prog) w 22 5 C n c underlying22 underlying5
 obtain ⟨w4,fj⟩:=BZ (w.alloc (.cells #[.int .u8 97,.int .u8 98] 5 (2,3)));have a4:AA w w4:=by rw[<-fj];exact (AA.refl w).alloc _
 have o4:Lr w4 (.slice (some ⟨w.heap.size,0,none⟩) 2 2) [97,98]:=⟨_,2,rfl,by decide,fun _=>⟨w.heap.size,0,rfl,by rw[<-fj];simp,fun j hj=>by
  have CQ:j=0\/j=1:=by simp at hj;omega
  have hh:w4.heap[w.heap.size]?=some (.cells #[.int .u8 97,.int .u8 98] 5 (2,3)):=by rw[<-fj];exact Ae rfl
  rcases CQ with rfl|rfl <;> simp[World.cell?,hh]⟩⟩
 have HN:=AC (QE (.slice (some ⟨w.heap.size,0,none⟩) 2 2) [97,98] 9 6 w4 o4 (by unfold BX;decide) (by decide) (by decide) (by decide) (hg.later a4));have WP:=AC a4;have YK:=AC hg;have ee:=nL;clear o4 a4 hg;go_enter func9,ntmps9;go_wp2_with fail;refine HN.out.mono ?_;rintro e w5 ⟨s,x,rfl,b5,h5⟩;have HA5:=AC (WP.out.trans b5);have HR:=AC (fun w' (a:AA w5 w')=>MF 0 w' (h5.later a) (YK.out.later (HA5.out.trans a)));rw[Tb.2.2.2.2]at HR;have HHt:=AC (fun w' (a:AA w5 w')=>Je w' (h5.later a).p);have hv:HV w4.heap.size w5 (.pointer (some ⟨x.hg,0,none⟩)) [(2,18)] [false]:=by
  have q:=h5.p.RF.v;have e1:Co (Bu (D_ [97,98] 9 6).wd) (D_ [97,98] 9 6).b (D_ [97,98] 9 6).S=[(2,18)]:=by
   rw[Tb.1];exact Tb.2.2.1
  have e2:Be (D_ [97,98] 9 6).b (D_ [97,98] 9 6).F=[false]:=Tb.2.2.2.1;rwa [e1,e2]at q
 have HTo:=AC (fun w' (a:AA w5 w')=>KG _ [(2,18)] [false] w' 2 18 (by decide) (by decide) (hv.later a));have UT:Hid ((C6 6 [97,98] [0,0]).length=2):=AC N2.1;clear h5 b5 hv;go_wp2_with fail;refine (HR w5 (AA.refl _)).mono ?_;rintro e w6 ⟨u,rfl,b6,q6⟩;obtain ⟨A6,c6,rfl,-⟩:=q6.form;rw[UT.out];have H6:=AC b6;clear b6 q6;go_wp2_with fail;refine (HHt w6 H6.out).mono ?_;rintro e w7 ⟨rfl,b7⟩;have H7:=AC (H6.out.trans b7);clear b7;go_wp2_with fail;refine (HTo w7 H7.out).mono ?_;rintro e w8 ⟨rfl,b8⟩;have H8:=AC (HA5.out.trans (H7.out.trans b8));clear b8;go_wp2_with fail;go_ret;exact ⟨rfl,H8.out⟩
end
section
variable{m m':Sc}
theorem iH(hb:m'.b=m.b)(hS:m'.S=m.S)(hw:m'.wd=m.wd)(k:Int):Fe m' k=Fe m k:=by
 unfold Fe;rw[hb,hS,hw]
theorem mV(hb:m'.b=m.b)(hS:m'.S=m.S)(hw:m'.wd=m.wd)(hF:m'.F=m.F)(k:Nat):da m' k=da m k:=by
 unfold da lV;rw[hb,hS,hw,hF]
theorem fH{n:Int}(h:1<=n/\n<=4096):Fo n=n:=by
 unfold Fo;split
 ·omega
 ·split <;> omega
theorem UH(v lv:Value)(b:List Int)(PB:List IW)(w:World)(hv:Lr w v b)(hb:BX b)(ha:g_ w lv PB)(hg:Dh w):
 Calls prog 5 #[v,lv] w fun e w'=>e=.returned (.bool true)/\AA w w':=by
 have pF:(b.take 80).length<=80:=by rw[length_take];omega
 have vo:BX (b.take 80):=fun c hc=>hb c (List.mem_of_mem_take hc)
 have uu:=AC (VG v b 80 w hv AD);have HLv:=AC (fun (y:World) (a:AA w y)=>WE y (Dh.later a hg));have HYe:=AC (fun (y:World) (a:AA w y) (u:Value) (q:Lr y u (b.take 80))=>QE u (b.take 80) 1000 60 y q vo AD AD ⟨by decide,by decide⟩ (Dh.later a hg));have HDn:=AC (fun (y:World) (u:Value) (q:Lr y u (b.take 80))=>dV u (b.take 80) 1000 60 y q AD);have sL:=AC (fun (j:Nat) (h:j<=PB.length) (h2:j<=25)=>fm.AK pF 1000 60 PB j h h2);have YK:=AC hg;have HA:=AC ha;obtain ⟨Av,cv,rfl,-⟩:=id ha;have Lp:=AC pF;obtain ⟨nl,fk⟩:=BZ (PB.length);have zT:=AC fk;rw[fk];clear hv hb ha hg pF vo fk;generalize b.take 80=b8 at *;go_enter func5,ntmps5;go_wp2_with fail;refine uu.out.mono ?_;rintro e w2 ⟨u2,rfl,AR,o2⟩;have H2:=AC (And.intro AR o2.rn);obtain ⟨A2,c2,rfl,-⟩:=o2.rn.form;obtain ⟨n2,Fx⟩:=BZ (b8.length);rw[Fx]at H2 ⊢;have pF:=Lp.out;obtain ⟨v3,w3,q1,q2,q3⟩:=Xv (w:=w2.alloc (.cells #[] 5)) (u:=.slice (some ⟨w2.heap.size,0,none⟩) 0 0) ⟨_,rfl⟩ (H2.out.2.later ((AA.refl w2).alloc _)) AD;have K1:=AC q1;have K2:=AC (And.intro (((AA.refl w2).alloc _).trans q2) q3.rn);clear o2 Fx q1 q2 q3 AR uu;go_wp2_with (at_builtin;refine Lib.wpList_append_run _ rfl _ _ _ _ rfl _ _ rfl rfl _ _ K1.out ?_)
 refine (HYe w3 (H2.out.1.trans K2.out.1) _ K2.out.2).mono ?_;rintro e w4 ⟨s,sx,rfl,Ao,hs⟩;have HS:=AC hs;have H4:=AC Ao;clear hs Ao HYe K1;go_wp2_with fail;refine (HDn w4 _ (H2.out.2.later (K2.out.1.trans H4.out))).mono ?_;rintro e w5 ⟨d,rfl,Bd,hd,v5,hv5⟩;have hB:w.heap.size<=w3.heap.size:=(H2.out.1.trans K2.out.1).below.size;have rR:w3.heap.size<=d:=le_trans H4.out.below.size hd;have H5:=AC ((H2.out.1.trans K2.out.1).trans (H4.out.trans Bd));have HP:Hid (DJ w3.heap.size w5 s d (D_ b8 1000 60) (D_ b8 1000 60) w5):=AC ⟨⟨sx,HS.out.later Bd⟩,⟨v5,hv5⟩,⟨w,YK.out,hB,H5.out⟩,Kp.of (AA.refl w5)⟩;clear hv5 hd Bd HS HDn H4 K2 H2;generalize w3.heap.size=B at *;generalize D_ b8 1000 60=m0 at *
 go_upto_block 0 with fail
 go_cut [] (fun wx=>∃j:Nat,j<=nl/\j<=25/\Hid (DJ B w5 s d (Gk m0 (PB.take j)) (Gk m0 (PB.take j)) wx))
 case first=>
  go_wp2_with fail;go_loopg [8] nl (fun kk iv wr=>∃j:Nat,kk=nl-j/\j<=nl/\j<=25/\iv=.int .i64 (j:Int)/\Hid (DJ B w5 s d (Gk m0 (PB.take j)) (Gk m0 (PB.take j)) wr))
  case atStart=>exact ⟨0,rfl,zero_le _,zero_le _,rfl,HP⟩
  case round=>
   obtain ⟨j,hkk,hj,cm,rfl,HJ⟩:=hrel;by_cases BN:j<nl/\j<25
   ·obtain ⟨h1,h2⟩:=BN;have zi:j<PB.length:=by rw[zT.out];exact h1
    have aw:=HJ.out.2.2.2.any w H5 hB;obtain ⟨oA,b0,off,rfl,q0,q1,q2,q3,q4,q5,q6⟩:=(zT.out ▸ HA.out:g_ w (.slice Av nl cv) PB).at zi;have c0:=Ak aw q0;have c1:=Ak aw q1;have ti:=Ak aw q2;have c3:=Ak aw q3;have c4:=Ak aw q4;have c5:=Ak aw q5;have c6:=Ak aw q6;clear q0 q1 q2 q3 q4 q5 q6 aw;have d0:(j:Int)<(nl:Int):=AD;have d1:(j:Int)<25:=AD;have p8:=xY zi h2 (sL j AD AD) rR w w5 wr oA HJ H5 hB;have p8:=AC p8;obtain ⟨Ab,cb,eb,-⟩:=oA.rb.form;obtain ⟨Al,cl,el,-⟩:=oA.rl;obtain ⟨Af,cf,ef,-⟩:=oA.rf.form;unfold Ho J0 at p8;clear oA HJ;generalize PB[j]=Aj at *;obtain ⟨kk,pa,pn,pt,vb,vl,vf,bb,ll,ff⟩:=Aj;simp only at c0 c1 ti c3 c4 c5 c6 eb el ef p8
    subst eb el ef;generalize bb.length=nb at *;generalize ll.length=nll at *;generalize ff.length=nff at *;clear zi;go_wp2_with fail;refine p8.out.mono ?_;rintro e w6 ⟨rfl,hp6,-⟩;have uE:=AC hp6;clear hp6 c0 c1 ti c3 c4 c5 c6 p8;go_wp2_with fail;go_roundg (nl-(j+1))
    case measure=>omega
    case rel=>exact ⟨j+1,rfl,AD,AD,by go_num,uE⟩
   ·by_cases h1:j<nl
    ·have d0:(j:Int)<(nl:Int):=AD;have d1:decide ((j:Int)<25)=false:=decide_eq_false AD;clear BN;go_wp2_with fail
     go_meet
     case rel=>exact ⟨j,hj,cm,HJ⟩
    ·have d0:decide ((j:Int)<(nl:Int))=false:=decide_eq_false AD;clear BN;go_wp2_with fail
     go_meet
     case rel=>exact ⟨j,hj,cm,HJ⟩
 case rest=>
  generalize wc=wr at *;obtain ⟨j,hj,cm,HJ⟩:=hcut;have NJ:=sL j (by rw[zT.out];exact hj) cm;have HW:=AC (HJ.out.2.2.2.any w H5 hB);obtain ⟨⟨sy,hs⟩,-,-,-⟩:=HJ.out;generalize Gk m0 (PB.take j)=m at *;have ok:=hs.ok;have t:=ok.t;have hmb:=NJ.b;have hF:=ok.fl;have tO:=ok.len;have hw:=ok.wd;have Z19:(Ap 0 m.b).length<=900:=le_trans (Dg m.b 0) tO;have xH:sy.t.nf=(Ap 0 m.b).length:=by rw[<-EZ];unfold J_;rw[hs.p.tb]
  have HTx:=AC (fun (y:World) (a:AA wr y)=>S9 y (hs.p.later a));have zg:=AC (fun (y:World) (a:AA wr y)=>kB (.pointer (some ⟨sy.tg,0,none⟩)) sy.t _ y (hs.p.tx.later a).tl hs.p.tok);rw[hs.p.tb]at zg;have HTl:=AC (fun (y:World) (a:AA wr y)=>FI sy.tg sy.g m.most sy.t y (hs.p.tx.later a) AD);rw[xH]at HTl;have HWd:=AC (fun (y:World) (a:AA wr y)=>YW y (hs.p.later a));have HRu:=AC (fun (y:World) (a:AA wr y)=>((dw y (hs.later a)).mono fun e y' ⟨u,q1,q2,q3⟩=>⟨u,q1,q2,⟨q3.typed,hs.asks.2⟩⟩:Calls prog 21 #[.pointer (some ⟨s,0,none⟩)] y fun e y'=>∃u,e=.returned u/\AA y y'/\Cf y' u (BM m.S)));have ux:=AC (fun (y:World) (a:AA wr y)=>((X9 y (hs.later a)).mono fun e y' ⟨u,q1,q2,q3⟩=>⟨u,q1,q2,OQ.qt q3⟩:Calls prog 22 #[.pointer (some ⟨s,0,none⟩)] y fun e y'=>∃u,e=.returned u/\AA y y'/\QT y' u m.F));have HNw:=AC (fun (y:World) (a:AA wr y) (u:Value) (q:RT .u8 5 y u m.b)=>QE u m.b 1000 m.wd y q.rn ok.O6 tO AD ⟨by decide,by decide⟩ (Dh.later (HW.out.trans a) YK.out));have qR:MW (D_ m.b 1000 m.wd) (BM m.S) m.F=true:=by
   unfold MW Cn;rw[hs.sR];have e:(D_ m.b 1000 m.wd).b=m.b:=rfl;rw[e,ok.fg,ok.sl];simp
  have HM:=AC (by
   unfold JE;rw[if_pos qR];exact ⟨rfl,hs.sR,rfl,fH hw⟩:(JE (D_ m.b 1000 m.wd) (BM m.S) m.F).b=m.b/\(JE (D_ m.b 1000 m.wd) (BM m.S) m.F).S=m.S/\(JE (D_ m.b 1000 m.wd) (BM m.S) m.F).F=m.F/\(JE (D_ m.b 1000 m.wd) (BM m.S) m.F).wd=m.wd)
  have S6:(D_ m.b 1000 m.wd).ld<=900000000:=by unfold D_;simp only;omega
  have HS:=AC hs;have td:=AC t;clear hs t NJ HJ sL HP;have ug:=AC (fun (B2 tt:Nat) (tx:ES) (y:World) (u1 u2:Value) (h:KD B2 y tt tx (D_ m.b 1000 m.wd)) (hg:RM B2 y) (h1:Cf y u1 (BM m.S)) (h2:QT y u2 m.F)=>Qo u1 u2 (BM m.S) m.F y h hg h1 h2 hF qR S6);generalize JE (D_ m.b 1000 m.wd) (BM m.S) m.F=M at *;have HNW:Hid (w.heap.size<=wr.heap.size):=AC HW.out.below.size;clear qR S6 hw tO hmb;go_wp2_with fail;refine (HTx wr (AA.refl _)).mono ?_;rintro e w6 ⟨rfl,b6⟩;have H6:=AC b6;clear b6;go_wp2_with fail;refine (zg w6 H6.out).mono ?_;rintro e w7 ⟨u7,rfl,b7,o7⟩;have H7:=AC (And.intro (H6.out.trans b7) o7);obtain ⟨A7,c7,rfl,-⟩:=(show RT .u8 5 w7 u7 m.b from o7).form;clear b7 o7;obtain ⟨nb7,v8⟩:∃k,m.b.length=k:=⟨_,rfl⟩;rw[v8]at H7 ⊢;clear v8;go_wp2_with fail;refine (HWd w7 H7.out.1).mono ?_;rintro e w8 ⟨rfl,b8'⟩;have H8:=AC (And.intro (H7.out.1.trans b8') ((show RT .u8 5 w7 _ m.b from H7.out.2).later b8'));clear b8';go_wp2_with fail;refine (HNw w8 H8.out.1 _ H8.out.2).mono ?_;rintro e w9 ⟨tt,tx,rfl,b9,ht⟩;have H9:=AC (H8.out.1.trans b9);have HT9:=AC ht;have hB8:w.heap.size<=w8.heap.size:=le_trans HNW H8.out.1.below.size;have HG9:Hid (RM w8.heap.size w9):=AC ⟨w,YK.out,hB8,HW.out.trans H9.out⟩;have HB9:=AC b9;clear b9 ht hB8;go_wp2_with fail;refine (HRu w9 H9.out).mono ?_;rintro e yB ⟨u10,rfl,b10,o10⟩;have mw:=AC (And.intro b10 o10);obtain ⟨zI,yQ,rfl,-⟩:=o10.1.1;clear b10 o10;obtain ⟨X21,qg⟩:∃k,(BM m.S).length=k:=⟨_,rfl⟩;rw[qg]at mw ⊢;clear qg;go_wp2_with fail;refine (ux yB (H9.out.trans mw.out.1)).mono ?_;rintro e w11 ⟨u11,rfl,xm,o11⟩;have l5:=AC (And.intro xm o11);obtain ⟨A11,zh,rfl,-⟩:=o11.1.form;clear xm o11;obtain ⟨Y21,pL⟩:∃k,m.F.length=k:=⟨_,rfl⟩;rw[pL]at l5 ⊢;clear pL;go_wp2_with fail;have nO:=mw.out.1.trans l5.out.1;refine (ug w8.heap.size tt tx w11 _ _ (HT9.out.later nO) (HG9.out.later nO) ⟨mw.out.2.1.later l5.out.1,mw.out.2.2⟩ l5.out.2).mono ?_;rintro e XN ⟨rfl,sw,nH,hch⟩;have mm:=AC (H8.out.1.trans (hch.any (HB9.out.trans nO) (Nat.le_refl _)));have s6:=AC (Dh.later (HW.out.trans mm.out) YK.out);have U7:=AC nH;obtain ⟨eb,eS,eF,ew⟩:=HM.out;clear nH hch nO HT9 HG9 mw l5 HB9 HNw ug H9 H8 H7 H6 HM;have HLK:=AC (fun (k:Nat) (hk:k<=(Ap 0 m.b).length)=>(by
   obtain ⟨s0,n0,-,-,e3,e4,-⟩:=td.out.line hk;have q1:=LV (wd:=m.wd) (l:=A_ m.b m.b k) (st:=A_ m.b m.S k) (FN td.out.O6 k);have:=td.out.len
   rw[Wv m hk];omega:(Fe m (k:Int)).length<=1000))
  have HSr:=AC (fun (k:Nat) (y:World) (a:AA XN y)=>MF (k:Int) y (HS.out.later (mm.out.trans a)) (Dh.later a s6.out));have HTr:=AC (fun (k:Nat) (y:World) (a:AA XN y)=>(by
   have q:=MF (k:Int) y (U7.out.later a) (Dh.later a s6.out);rw[iH eb eS ew]at q;exact q:Calls prog 25 #[.pointer (some ⟨tt,0,none⟩),.int .i64 (k:Int)] y fun e w'=>∃u,e=.returned u/\AA y w'/\LR w' u (Fe m (k:Int))))
  have tu:=AC (fun (k:Nat) (hk:k<=(Ap 0 m.b).length) (y:World) (u1 u2:Value) (q1:LR y u1 (Fe m (k:Int))) (q2:LR y u2 (Fe m (k:Int)))=>dm u1 u2 _ y q1 q2 (HLK k hk) (fun r hr=>(by
   rw[Wv m hk]at hr;obtain ⟨s0,n0,-,-,e3,e4,-⟩:=td.out.line hk;have q:=(Pi (Et (A_ m.b m.b k) (fun p=>(A_ m.b m.S k).getD p 0) (XE (A_ m.b m.b k))) m.wd).2 r hr;rw[EX]at q;have hb:BX (A_ m.b m.b k):=FN td.out.O6 k;have:=(LA hb).le hb
   have:=td.out.len
   omega)))
  have HSh:=AC (fun (y:World) (a:AA XN y)=>Je y (HS.out.p.later (mm.out.trans a)));have HTh:=AC (fun (y:World) (a:AA XN y)=>Je y (U7.out.p.later a));have sz:=AC (fun (k:Nat) (hk:k<=(Ap 0 m.b).length+1) (y:World) (a:AA XN y)=>SK (.pointer (some ⟨sy.hg,0,none⟩)) _ _ (k:Int) y _ (kV m hk) (HS.out.p.later (mm.out.trans a)).hv);have HTt:=AC (fun (k:Nat) (hk:k<=(Ap 0 m.b).length+1) (y:World) (a:AA XN y)=>(by
   have q:=SK (.pointer (some ⟨sw.hg,0,none⟩)) _ _ (k:Int) y _ (kV M (by rw[eb];exact hk)) (U7.out.p.later a).hv;rw[mV eb eS ew eF]at q;exact q:Calls prog 27 #[.pointer (some ⟨sw.hg,0,none⟩),.int .i64 (k:Int)] y fun e w'=>e=.returned (.int .i64 (da m k))/\AA y w'))
  have HSz:=AC (fun (y:World) (a:AA XN y)=>KG (.pointer (some ⟨sy.hg,0,none⟩)) _ _ y _ _ rfl rfl (HS.out.p.later (mm.out.trans a)).hv);have HTz:=AC (fun (y:World) (a:AA XN y)=>KG (.pointer (some ⟨sw.hg,0,none⟩)) _ _ y _ _ rfl rfl (U7.out.p.later a).hv);rw[eb,eS,ew,eF]at HTz;have HSx:=AC (fun (y:World) (a:AA XN y)=>HTx y (mm.out.trans a));have HSl:=AC (fun (y:World) (a:AA XN y)=>HTl y (mm.out.trans a));have zn:=AC (fun (y:World) (a:AA XN y)=>S9 y (U7.out.p.later a));have qO:sw.t.nf=(Ap 0 m.b).length:=by rw[<-EZ];unfold J_;rw[U7.out.p.tb,eb]
  have vN:=AC (fun (y:World) (a:AA XN y)=>FI sw.tg sw.g M.most sw.t y (U7.out.p.tx.later a) AD);rw[qO]at vN;have HLz:=AC (fun (y:World) (a:AA XN y)=>HLv y (HW.out.trans (mm.out.trans a)));have HZ:=AC (HW.out.trans mm.out);generalize DL (Bo (Co (Bu m.wd) m.b m.S) (Be m.b m.F))=Rt at *;generalize DG (Bo (Co (Bu m.wd) m.b m.S) (Be m.b m.F))=Zt at *;clear eb eS eF ew U7 HS HLK td HTx HTl zg HWd HRu ux HLv s6 xH qO ok hF;generalize (Ap 0 m.b).length=nf at *;have nI:(nf:Int)<=900:=AD;go_wp2_with fail;go_loopg [11] (nf+1) (fun kk iv wx=>∃k:Nat,kk=nf+1-k/\k<=nf+1/\iv=.int .i64 (k:Int)/\Hid (AA XN wx))
  case atStart=>exact ⟨0,rfl,zero_le _,rfl,AC (AA.refl _)⟩
  case round=>
   obtain ⟨k,hkk,hk,rfl,HX⟩:=hrel;go_wp2_with fail;refine (HSx wr HX.out).mono ?_;rintro e w13 ⟨rfl,b13⟩;have H13:=AC (HX.out.trans b13);clear b13;go_wp2_with fail;refine (HSl w13 H13.out).mono ?_;rintro e w14 ⟨rfl,b14⟩;have yf:=AC (H13.out.trans b14);clear b14 H13;by_cases BN:k<nf+1
   ·have i0:(k:Int)<((nf+1:Nat):Int):=AD;have uD:k<=nf:=AD;have pA:=sz k AD;have my:=HTt k AD;generalize da m k=tz at pA my;have pA:=AC pA;have my:=AC my;go_wp2_with fail;refine (HSr k w14 yf.out).mono ?_;rintro e w15 ⟨u15,rfl,vM,o15⟩;have qE:=AC (And.intro (yf.out.trans vM) o15);obtain ⟨A15,c15,rfl,-⟩:=o15.form;clear vM o15;obtain ⟨n15,sG⟩:∃j,(Fe m (k:Int)).length=j:=⟨_,rfl⟩;rw[sG]at qE ⊢;go_wp2_with fail;refine (HTr k w15 qE.out.1).mono ?_;rintro e zM ⟨u16,rfl,ue,vU⟩;have pP:=AC (And.intro (qE.out.1.trans ue) (And.intro (qE.out.2.later ue) vU));obtain ⟨A16,c16,rfl,-⟩:=vU.form;clear ue vU;rw[sG]at pP ⊢;clear sG;go_wp2_with fail;refine (tu k uD zM _ _ pP.out.2.1 pP.out.2.2).mono ?_;rintro e zR ⟨rfl,xZ⟩;have ub:=AC (pP.out.1.trans xZ);clear xZ qE pP;go_wp2_with fail;refine (HSh zR ub.out).mono ?_;rintro e w18 ⟨rfl,vD⟩;have t_:=AC (ub.out.trans vD);clear vD;go_wp2_with fail;refine (pA w18 t_.out).mono ?_;rintro e w19 ⟨rfl,vk⟩;have uQ:=AC (t_.out.trans vk);clear vk;go_wp2_with fail;refine (HTh w19 uQ.out).mono ?_;rintro e w20 ⟨rfl,ve⟩;have tw:=AC (uQ.out.trans ve);clear ve;go_wp2_with fail;refine (my w20 tw.out).mono ?_;rintro e w21 ⟨rfl,vV⟩;have yh:=AC (tw.out.trans vV);clear vV ub t_ uQ tw;go_wp2_with fail;go_roundg (nf+1-(k+1))
    case measure=>omega
    case rel=>exact ⟨k+1,rfl,AD,by go_num,yh⟩
   ·obtain rfl:k=nf+1:=AD
    have ez:=n_;have gz:=ZQ;go_wp2_with fail;refine (HSh w14 yf.out).mono ?_;rintro e w15 ⟨rfl,vM⟩;have qE:=AC (yf.out.trans vM);clear vM;go_wp2_with fail;refine (HSz w15 qE.out).mono ?_;rintro e zM ⟨rfl,ue⟩;have pP:=AC (qE.out.trans ue);clear ue;go_wp2_with fail;refine (HTh zM pP.out).mono ?_;rintro e zR ⟨rfl,xZ⟩;have ub:=AC (pP.out.trans xZ);clear xZ;go_wp2_with fail;refine (HTz zR ub.out).mono ?_;rintro e w18 ⟨rfl,vD⟩;have t_:=AC (ub.out.trans vD);clear vD;go_wp2_with fail;refine (zn w18 t_.out).mono ?_;rintro e w19 ⟨rfl,vk⟩;have uQ:=AC (t_.out.trans vk);clear vk;go_wp2_with fail;refine (vN w19 uQ.out).mono ?_;rintro e w20 ⟨rfl,ve⟩;have tw:=AC (uQ.out.trans ve);clear ve;go_wp2_with fail;refine (HSx w20 tw.out).mono ?_;rintro e w21 ⟨rfl,vV⟩;have yh:=AC (tw.out.trans vV);clear vV;go_wp2_with fail;refine (HSl w21 yh.out).mono ?_;rintro e w22 ⟨rfl,b22⟩;have H22:=AC (yh.out.trans b22);clear b22;go_wp2_with fail;refine (HLz w22 H22.out).mono ?_;rintro e w23 ⟨rfl,b23⟩;have H23:=AC (HZ.out.trans (H22.out.trans b23));clear b23;go_wp2_with fail;go_ret;exact ⟨rfl,H23.out⟩
end
end Go.Proofs.YtamhnffokoejjaaGreatDoor
