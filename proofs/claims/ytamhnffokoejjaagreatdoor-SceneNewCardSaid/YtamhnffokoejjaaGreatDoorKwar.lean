import Derived.Deep.LoopGhost
import Derived.Test.YtamhnffokoejjaaGreatDoorKwan
set_option linter.all false
set_option maxHeartbeats 1600000
set_option maxRecDepth 100000
namespace Go.Proofs.YtamhnffokoejjaaGreatDoor
open List(length_append mem_of_getElem?)
open Nat(le_refl le_trans)
open Go.Proofs.Tryz
open Go.RowKit
section
variable{l:Qs}
def CF(x:Int × Int):Bool:=decide (x.1<0\/16777216<x.1\/x.2<0\/16777216<x.2)
theorem MT(a b:Int)(c:Bool)(w:World)(hc:CF (a,b)=c):Calls prog 221 #[.agg #[.int .i64 a,.int .i64 b]] w fun e w'=>e=.returned (.bool c)/\AA w w':=by
 unfold CF at hc;by_cases h1:a<0
 ·obtain rfl:true=c:=by rw[<-hc];exact (decide_eq_true (.inl h1)).symm
  clear hc;go_enter func221,ntmps221;go_wp2_with fail;go_ret;exact ⟨rfl,BQ⟩
 ·by_cases h2:16777216<a
  ·obtain rfl:true=c:=by rw[<-hc];exact (decide_eq_true (.inr (.inl h2))).symm
   clear hc;go_enter func221,ntmps221;go_wp2_with fail;go_ret;exact ⟨rfl,BQ⟩
  ·by_cases h3:b<0
   ·obtain rfl:true=c:=by rw[<-hc];exact (decide_eq_true (.inr (.inr (.inl h3)))).symm
    clear hc;go_enter func221,ntmps221;go_wp2_with fail;go_ret;exact ⟨rfl,BQ⟩
   ·by_cases h4:16777216<b
    ·obtain rfl:true=c:=by rw[<-hc];exact (decide_eq_true (.inr (.inr (.inr h4)))).symm
     clear hc;go_enter func221,ntmps221;go_wp2_with fail;go_ret;exact ⟨rfl,BQ⟩
    ·obtain rfl:false=c:=by rw[<-hc];exact (decide_eq_false (by simp only;omega)).symm
     clear hc;go_enter func221,ntmps221;go_wp2_with fail;go_ret;exact ⟨rfl,BQ⟩
theorem Jd(a b:Int)(w:World):Calls prog 210 #[.agg #[.int .i64 a,.int .i64 b]] w fun e w'=>e=.returned (.agg #[.int .i64 1,.int .i64 a,.int .i64 b])/\AA w w':=by
 go_enter func210,ntmps210;go_wp2_with fail;refine bodyPost_ret (v:=.agg #[.int .i64 1,.int .i64 a,.int .i64 b]) (by simp[results,results210,go_sem, *]) rfl ⟨rfl,?_⟩;exact BQ
theorem Ml(a b c d e f x y z:Int)(w:World)(hx:a+d=x)(hy:b+e=y)(hz:c+f=z)(bx:0<=x/\x<=9000000000000)(bY:0<=y/\y<=9000000000000)(bz:0<=z/\z<=9000000000000):
 Calls prog 207 #[.agg #[.int .i64 a,.int .i64 b,.int .i64 c],.agg #[.int .i64 d,.int .i64 e,.int .i64 f]] w fun e w'=>e=.returned (.agg #[.int .i64 x,.int .i64 y,.int .i64 z])/\AA w w':=by
 obtain ⟨x1,x2⟩:=bx;obtain ⟨y1,y2⟩:=bY;obtain ⟨z1,z2⟩:=bz;go_enter func207,ntmps207;go_wp2_with fail;refine wp_loop_rounds 4 ?_;rw[rounds_succ];go_wp2_with fail
 go_region
 go_wp2_with fail;rw[rounds_succ];go_wp2_with fail
 go_region
 go_wp2_with fail;rw[rounds_succ];go_wp2_with fail
 go_region
 go_wp2_with fail;rw[rounds_succ];go_wp2_with fail;refine bodyPost_ret (v:=.agg #[.int .i64 x,.int .i64 y,.int .i64 z]) (by simp[results,results207,go_sem, *]) rfl ⟨rfl,?_⟩;exact BQ
theorem mY{j:Nat}(h:j<l.length):DL (l.take (j+1))=DL (l.take j)+l[j].1/\DG (l.take (j+1))=DG (l.take j)+l[j].2:=by
 rw[List.take_succ_eq_append_getElem h,EC,EO];simp[DL,DG]
theorem D8.bound(h:D8 l)(hl:l.length<=90000)(j:Nat):(0<=DL (l.take j)/\DL (l.take j)<=2000000000000)/\0<=DG (l.take j)/\DG (l.take j)<=2000000000000:=by
 have h1:=(h.take j).Ob;have h2:(l.take j).length<=90000:=by rw[List.length_take];omega
 omega
theorem Lh(k:Nat)(rv v x3 x4 x5 x6:Value)(l:Qs)(w:World)(hk:w.heap[k]?=some (.cells #[.pointer none,rv,v,x3,x4,x5,x6] 249))(hv:QR w v l)(hl:l.length<=90000)(hT:D8 l):
 Calls prog 260 #[.pointer (some ⟨k,0,none⟩)] w fun e w'=>e=.returned (.agg #[.int .i64 (l.length:Int),.int .i64 (DL l),.int .i64 (DG l),.int .i64 1])/\AA w w':=by
 obtain ⟨A,cap,rfl,h2,h3⟩:=hv;have Kk:Hid (∀(j:Nat) (h:j<l.length),∃b off,A=some ⟨b,off,none⟩/\b<w.heap.size/\w.cell? ⟨b,off+j*2,none⟩=some (.int .i64 l[j].1)/\w.cell? ⟨b,off+j*2+1,none⟩=some (.int .i64 l[j].2)):=AC (fun j hj=>by
  obtain ⟨b,off,e,hb,hc⟩:=h3 AD;exact ⟨b,off,e,hb,hc j hj⟩)
 have HT:Hid (∀(j:Nat) (h:j<l.length),DL (l.take (j+1))=DL (l.take j)+l[j].1/\DG (l.take (j+1))=DG (l.take j)+l[j].2):=AC (fun j h=>mY h);have HB:Hid (∀j,(0<=DL (l.take j)/\DL (l.take j)<=2000000000000)/\0<=DG (l.take j)/\DG (l.take j)<=2000000000000):=AC (hT.bound hl);have HE:Hid (DL (l.take l.length)=DL l/\DG (l.take l.length)=DG l):=AC (by rw[List.take_length];exact ⟨rfl,rfl⟩);have HL:Hid (l.length=l.length):=AC rfl;have HC:=AC (fun a b w=>Jd a b w);obtain ⟨n,Lf⟩:=BZ (l.length);have HN:=AC Lf;have Ag:=hk;rw[Lf]at h2 hl HE Ag ⊢;clear h3 hk Lf hT HL;generalize DL l=SR at *;generalize DG l=SH at *;obtain ⟨Bx,Wk⟩:=Rn Ag;go_enter func260,ntmps260;go_wp2_with fail;refine BW (fun wS=>AA w wS/\wS.heap[w.heap.size]?=some (.cells #[.int .i64 0,.int .i64 0,.int .i64 0,.int .i64 0] 247)/\wS.heap[w.heap.size+1]?=some (.cells #[.int .i64 0,.int .i64 0,.int .i64 0] 206)) ⟨BQ,CG,CG⟩ ?_;rintro w1 ⟨AJ,Aq,DA⟩;have AG:=AJ;have AH:=AB AJ Ag;have B7:=AE AH;(try clear Bx);go_wp2_with fail;go_loopg [19] n (fun kk i wr=>∃j:Nat,kk=n-j/\j<=n/\i=.int .i64 j/\AA w wr/\wr.heap[w.heap.size]?=some (.cells #[.int .i64 0,.int .i64 0,.int .i64 0,.int .i64 0] 247)/\wr.heap[w.heap.size+1]?=some (.cells #[.int .i64 j,.int .i64 (DL (l.take j)),.int .i64 (DG (l.take j))] 206))
 case atStart=>exact ⟨0,AD,AD,rfl,AG,Aq,by simpa[DL,DG] using DA⟩
 case round=>
  obtain ⟨j,hk,hj,rfl,AW,CR,Fs⟩:=hrel;by_cases BN:j<n
  ·have lj:j<l.length:=by rw[HN.out];exact BN
   obtain ⟨b,off,rfl,hb,k0,k1⟩:=Kk j lj;have c0:wr.cell? ⟨b,off+j*2,none⟩=some (.int .i64 l[j].1):=(AW.below.cell hb).trans k0;have c1:wr.cell? ⟨b,off+j*2+1,none⟩=some (.int .i64 l[j].2):=(AW.below.cell hb).trans k1;obtain ⟨t1,t2⟩:=HT j lj;have t1:=AC t1;have t2:=AC t2;obtain ⟨⟨p1,p2⟩,p3,p4⟩:=HB (j+1);obtain ⟨R1,e1⟩:=BZ (DL (l.take (j+1)));obtain ⟨H1,e2⟩:=BZ (DG (l.take (j+1)));have l_:=AC (And.intro e1 e2);rw[e1]at t1 p1 p2;rw[e2]at t2 p3 p4;clear e1 e2;generalize DL (l.take j)=R0 at *;generalize DG (l.take j)=H0 at *;clear k0 k1;generalize l[j]=x at *;obtain ⟨f,t⟩:=x;simp only at c0 c1 t1 t2
   have HA:=AC (fun w=>Ml (j:Int) R0 H0 1 f t ((j:Int)+1) R1 H1 w rfl t1.out.symm t2.out.symm ⟨AD,AD⟩ ⟨AD,AD⟩ ⟨AD,AD⟩);go_wp2_with fail;refine JL wr (wr.heap.size) (.cells #[.int .i64 f,.int .i64 t] 61) ?_;intro w2 AL DM;have AR:=AW.trans AL;have AU:=AB AL CR;have BH:=AB AL Fs;(try clear Dy pz);(try clear J6);apply AP (4) [⟨2,25,.agg #[.int .i64 1,.int .i64 f,.int .i64 t],false,fun v _=>v=.agg #[.int .i64 1,.int .i64 f,.int .i64 t]⟩,⟨3,26,.agg #[.int .i64 ((j:Int)+1),.int .i64 R1,.int .i64 H1],false,fun v _=>v=.agg #[.int .i64 ((j:Int)+1),.int .i64 R1,.int .i64 H1]⟩] [] rfl AY AY AY Ar AY
   case hstab=>
    intro c hc;rcases Cv hc with rfl|rfl
    ·intro v x y BE hv;exact hv
    ·intro v x y BE hv;exact hv
   case hfix=>
    intro c hc;rcases Cv hc with rfl|rfl
    ·exact .inr fun u x h=>h
    ·exact .inr fun u x h=>h
   case hlex=>
    intro U hU;have q1:=AE (AB hU BH);have q2:=AE (AB hU DM);refine Hj ?_
    repeat (go_big_quiet_step (fail))
    exact wpQuiet_nil rfl
   case hstep=>
    intro j hj o ho;have CQ:j=0\/j=1:=by simp at hj;omega
    rcases CQ with rfl|rfl
    ·cases ho;refine ⟨rfl,fun g x hx hp=>?_⟩;clear hp;refine Bp ?_;refine AO ?_ (At (HC f t x));simp[go_sem,execOp]
    ·cases ho;refine ⟨rfl,fun g x hx hp=>?_⟩;clear hp;refine Bp ?_;refine AO ?_ (At (HA x));simp[go_sem,execOp]
   case htail=>
    intro g u Aw Az;have AX:AA w2 (later u):=⟨u,rfl⟩;generalize later u=w3 at *;clear u;clear Aw Az;refine DH ?_;have An:=AR.trans AX;have Ah:=AB AX AU;have BD:=AB AX BH;obtain ⟨Dm,FE⟩:=DX BD;go_wp2_with fail;go_roundg (n-(j+1))
    case measure=>omega
    case rel=>
     refine ⟨j+1,rfl,BN,by go_num,?_,?_,?_⟩
     ·exact BQ
     ·exact CG
     ·rw[l_.out.1,l_.out.2];exact CG
  ·obtain rfl:j=n:=AD
   obtain ⟨e1,e2⟩:=HE.out;rw[e1,e2]at Fs;have Dy:=AE CR;have J6:=AE Fs;have pz:=Bq CR;go_wp2_with fail;refine bodyPost_ret (v:=.agg #[.int .i64 (j:Int),.int .i64 SR,.int .i64 SH,.int .i64 1]) (by simp[results,results260,go_sem, *]) rfl ⟨rfl,?_⟩;exact BQ
theorem az{P:Program}(w:World)(ts:Array TypeId)(t:TypeId)(p q:Nat):(Builtin.max_ ts t #[.int .i64 (p:Int),.int .i64 (q:Int)]).run P w=.ok (.int .i64 ((max p q:Nat):Int)) w:=by
 rw[run_max_int2];split <;> (congr 2;omega)
theorem JS(k k1 k2:Nat)(fv x3 x4 x5 x6 a0 a1 a2 b0 b1 b2:Value)(n1 n2 m1 m2:Nat)(R1 H1 R2 H2:Int)(w:World)
 (hk:w.heap[k]?=some (.cells #[.pointer (some ⟨k1,0,none⟩),.pointer (some ⟨k2,0,none⟩),fv,x3,x4,x5,x6] 249))
 (h1:w.heap[k1]?=some (.cells #[a0,a1,a2,.int .i64 (n1:Int),.int .i64 R1,.int .i64 H1,.int .i64 (m1:Int)] 249)) (h2:w.heap[k2]?=some (.cells #[b0,b1,b2,.int .i64 (n2:Int),.int .i64 R2,.int .i64 H2,.int .i64 (m2:Int)] 249))
 (bn:n1+n2<=90000) (bm:m1<=90000/\m2<=90000) (bR:0<=R1+R2/\R1+R2<=9000000000000) (bH:0<=H1+H2/\H1+H2<=9000000000000):
 Calls prog 260 #[.pointer (some ⟨k,0,none⟩)] w fun e w'=>e=.returned (.agg #[.int .i64 ((n1+n2:Nat):Int),.int .i64 (R1+R2),.int .i64 (H1+H2),.int .i64 ((1+max m1 m2:Nat):Int)])/\AA w w':=by
 have Ag:=hk;have MA:=h1;have TR:=h2;obtain ⟨N,hN⟩:=BZ (n1+n2);obtain ⟨R,hR⟩:=BZ (R1+R2);obtain ⟨H,hH⟩:=BZ (H1+H2);obtain ⟨M,hM⟩:=BZ (max m1 m2);have hM2:M<=90000:=AD;have HMx:∀(w:World) ts t,(Builtin.max_ ts t #[.int .i64 (m1:Int),.int .i64 (m2:Int)]).run prog w=.ok (.int .i64 (M:Int)) w:=fun w ts t=>by rw[az,hM]
 have HA:=AC (fun w=>Ml (n1:Int) R1 H1 (n2:Int) R2 H2 (N:Int) R H w AD hR hH ⟨AD,AD⟩ ⟨AD,AD⟩ ⟨AD,AD⟩);rw[hN,hR,hH,hM];clear hk h1 h2 hN hR hH hM bn bm bR bH;obtain ⟨Bx,Wk⟩:=Rn Ag;go_enter func260,ntmps260;go_wp2_with fail;refine JL w (w.heap.size) (.cells #[.int .i64 0,.int .i64 0,.int .i64 0,.int .i64 0] 247) ?_;intro w1 AJ KN;have AG:=AJ;have AH:=AB AJ Ag;have Aq:=AB AJ MA;have DA:=AB AJ TR;obtain ⟨B7,J5⟩:=Rn AH;obtain ⟨Gm,Qk⟩:=Rn Aq;obtain ⟨Zy,qX⟩:=Rn DA;(try clear Bx)
 go_region
 ·go_wp2_with fail;refine BW (fun wS=>AA w1 wS/\wS.heap[w1.heap.size]?=some (.cells #[.int .i64 (n1:Int),.int .i64 R1,.int .i64 H1,.int .i64 (m1:Int)] 247)/\wS.heap[w1.heap.size+1]?=some (.cells #[.int .i64 (n2:Int),.int .i64 R2,.int .i64 H2,.int .i64 (m2:Int)] 247)) ⟨BQ,CG,CG⟩ ?_;rintro w2 ⟨AL,Pr,lL⟩;have AR:=AG.trans AL;have lP:=AB AL KN;(try clear B7);(try clear Gm);(try clear Zy);apply AP (12) [⟨4,48,.agg #[.int .i64 (N:Int),.int .i64 R,.int .i64 H],false,fun v _=>v=.agg #[.int .i64 (N:Int),.int .i64 R,.int .i64 H]⟩] [] rfl AY AY AY Ar AY
  case hstab=>
   intro c hc;rcases Cv hc with rfl
   ·intro v x y BE hv;exact hv
  case hfix=>
   intro c hc;rcases Cv hc with rfl
   ·exact .inr fun u x h=>h
  case hlex=>
   intro U hU;have q4:=AE (AB hU Pr);have q5:=AE (AB hU lL);refine Hj ?_
   repeat (go_big_quiet_step (fail))
   exact wpQuiet_nil rfl
  case hstep=>
   intro j hj o ho;have CQ:j=0:=by simp at hj;omega
   rcases CQ with rfl
   ·cases ho;refine ⟨rfl,fun g x hx hp=>?_⟩;clear hp;refine Bp ?_;refine AO ?_ (At (HA x));simp[go_sem,execOp]
  case htail=>
   intro g u Aw Az;have AX:AA w2 (later u):=⟨u,rfl⟩;generalize later u=w3 at *;clear u;clear Aw Az;refine DH ?_;have An:=AR.trans AX;have Ph:=AB AX lP;obtain ⟨vG,yC⟩:=DX Ph;go_wp2_with fail;refine bodyPost_ret (v:=.agg #[.int .i64 (N:Int),.int .i64 R,.int .i64 H,.int .i64 ((1+M:Nat):Int)]) (by simp[results,results260,go_sem, *]) rfl ⟨rfl,?_⟩;exact BQ
 ·go_wp2_with fail;refine BW (fun wS=>AA w1 wS/\wS.heap[w1.heap.size]?=some (.cells #[.int .i64 (n2:Int),.int .i64 R2,.int .i64 H2,.int .i64 (m2:Int)] 247)/\wS.heap[w1.heap.size+1]?=some (.cells #[.int .i64 (n1:Int),.int .i64 R1,.int .i64 H1,.int .i64 (m1:Int)] 247)) ⟨BQ,CG,CG⟩ ?_;rintro w2 ⟨AL,Pr,lL⟩;have AR:=AG.trans AL;have lP:=AB AL KN;(try clear B7);(try clear Gm);(try clear Zy);apply AP (12) [⟨4,48,.agg #[.int .i64 (N:Int),.int .i64 R,.int .i64 H],false,fun v _=>v=.agg #[.int .i64 (N:Int),.int .i64 R,.int .i64 H]⟩] [] rfl AY AY AY Ar AY
  case hstab=>
   intro c hc;rcases Cv hc with rfl
   ·intro v x y BE hv;exact hv
  case hfix=>
   intro c hc;rcases Cv hc with rfl
   ·exact .inr fun u x h=>h
  case hlex=>
   intro U hU;have q4:=AE (AB hU Pr);have q5:=AE (AB hU lL);refine Hj ?_
   repeat (go_big_quiet_step (fail))
   exact wpQuiet_nil rfl
  case hstep=>
   intro j hj o ho;have CQ:j=0:=by simp at hj;omega
   rcases CQ with rfl
   ·cases ho;refine ⟨rfl,fun g x hx hp=>?_⟩;clear hp;refine Bp ?_;refine AO ?_ (At (HA x));simp[go_sem,execOp]
  case htail=>
   intro g u Aw Az;have AX:AA w2 (later u):=⟨u,rfl⟩;generalize later u=w3 at *;clear u;clear Aw Az;refine DH ?_;have An:=AR.trans AX;have Ph:=AB AX lP;obtain ⟨vG,yC⟩:=DX Ph;go_wp2_with fail;refine bodyPost_ret (v:=.agg #[.int .i64 (N:Int),.int .i64 R,.int .i64 H,.int .i64 ((1+M:Nat):Int)]) (by simp[results,results260,go_sem, *]) rfl ⟨rfl,?_⟩;exact BQ
end
section
variable {B:Nat}
theorem Xa(v:Value)(l:Qs)(w:World)(hv:QR w v l)(hl:l.length<=90000)(hT:D8 l):
 Calls prog 274 #[.agg #[.pointer none,.pointer none,v,.int .i64 0,.int .i64 0,.int .i64 0,.int .i64 0]] w fun e w'=>∃g,e=.returned (.pointer (some ⟨g,0,none⟩))/\w.heap.size<=g/\AA w w'/\
  w'.heap[g]?=some (.cells #[.pointer none,.pointer none,v,.int .i64 (l.length:Int),.int .i64 (DL l),.int .i64 (DG l),.int .i64 1] 249):=by
 have HR:=AC (fun (w':World) (a:AA w w') (k:Nat) hk=>Lh k (.pointer none) v (.int .i64 0) (.int .i64 0) (.int .i64 0) (.int .i64 0) l w' hk (hv.later a) hl hT);obtain ⟨A,cap,rfl,-⟩:=hv.form;clear hv hl hT;generalize l.length=n at *;generalize DL l=R at *;generalize DG l=H at *;go_enter func274,ntmps274;go_wp2_with fail;refine AQ (fun wS=>AA w wS/\wS.heap[w.heap.size]?=some (.cells #[.pointer none,.pointer none,.slice A n cap,.int .i64 0,.int .i64 0,.int .i64 0,.int .i64 0] 249)) ⟨BQ,CG⟩ ?_;rintro w1 ⟨AJ,AH⟩;have AG:=AJ;refine (HR _ AG _ AH).mono ?_;rintro e w2 ⟨rfl,AL⟩;have AR:=AG.trans AL;have AU:=AB AL AH;obtain ⟨BS,Dj⟩:=DX AU;go_wp2_with fail;go_ret;refine ⟨_,rfl,le_refl _,BQ,?_⟩;exact CG
theorem do0(k1 k2:Nat)(a0 a1 a2 b0 b1 b2:Value)(n1 n2 m1 m2:Nat)(R1 H1 R2 H2:Int)(w:World)
 (h1:w.heap[k1]?=some (.cells #[a0,a1,a2,.int .i64 (n1:Int),.int .i64 R1,.int .i64 H1,.int .i64 (m1:Int)] 249)) (h2:w.heap[k2]?=some (.cells #[b0,b1,b2,.int .i64 (n2:Int),.int .i64 R2,.int .i64 H2,.int .i64 (m2:Int)] 249))
 (bn:n1+n2<=90000) (bm:m1<=90000/\m2<=90000) (bR:0<=R1+R2/\R1+R2<=9000000000000) (bH:0<=H1+H2/\H1+H2<=9000000000000):
 Calls prog 274 #[.agg #[.pointer (some ⟨k1,0,none⟩),.pointer (some ⟨k2,0,none⟩),.slice none 0 0,.int .i64 0,.int .i64 0,.int .i64 0,.int .i64 0]] w fun e w'=>∃g,e=.returned (.pointer (some ⟨g,0,none⟩))/\w.heap.size<=g/\AA w w'/\
  w'.heap[g]?=some (.cells #[.pointer (some ⟨k1,0,none⟩),.pointer (some ⟨k2,0,none⟩),.slice none 0 0,.int .i64 ((n1+n2:Nat):Int),.int .i64 (R1+R2),.int .i64 (H1+H2),.int .i64 ((1+max m1 m2:Nat):Int)] 249):=by
 have HR:=AC (fun (w':World) (a:AA w w') (k:Nat) hk=>JS k k1 k2 (.slice none 0 0) (.int .i64 0) (.int .i64 0) (.int .i64 0) (.int .i64 0) a0 a1 a2 b0 b1 b2 n1 n2 m1 m2 R1 H1 R2 H2 w' hk (AB a h1) (AB a h2) bn bm bR bH);clear h1 h2 bn bm bR bH;generalize n1+n2=N at *;generalize R1+R2=R at *;generalize H1+H2=H at *;generalize max m1 m2=M at *;go_enter func274,ntmps274;go_wp2_with fail;refine AQ (fun wS=>AA w wS/\wS.heap[w.heap.size]?=some (.cells #[.pointer (some ⟨k1,0,none⟩),.pointer (some ⟨k2,0,none⟩),.slice none 0 0,.int .i64 0,.int .i64 0,.int .i64 0,.int .i64 0] 249)) ⟨BQ,CG⟩ ?_;rintro w1 ⟨AJ,AH⟩;have AG:=AJ;refine (HR _ AG _ AH).mono ?_;rintro e w2 ⟨rfl,AL⟩;have AR:=AG.trans AL;have AU:=AB AL AH;obtain ⟨BS,Dj⟩:=DX AU;go_wp2_with fail;go_ret;refine ⟨_,rfl,le_refl _,BQ,?_⟩;exact CG
theorem Dx.D6{w:World}:∀{t:Ht} {v:Value} {F:List Nat},Dx w t v F->t≠.nil->∃(k:Nat) (a b c:Value),v=.pointer (some ⟨k,0,none⟩)/\w.heap[k]?=some (.cells (Bm a b c t) 249)
 |.nil,_,_,_,h=>absurd rfl h
 |.leaf _ _,_,_,h,_=>by obtain ⟨k,_,h1,h2,h3,_⟩:=h;exact ⟨k,_,_,_,h1,h3⟩
 |.node _ _,_,_,h,_=>by obtain ⟨k,_,_,_,_,h1,h2,_,_,h3,_⟩:=h;exact ⟨k,_,_,_,h1,h3⟩
theorem CD.D6{t:Ht}{v:Value}{w:World}(h:CD B t v w)(n:t≠.nil):∃(k:Nat) (a b c:Value),v=.pointer (some ⟨k,0,none⟩)/\w.heap[k]?=some (.cells (Bm a b c t) 249):=by
 obtain ⟨_,F,hF,_⟩:=h;exact hF.D6 n
structure Ht.Fit(t:Ht):Prop where
 full:t.Full
 Hz:D8 t.hs
 most:t.hs.length<=90000
theorem Ht.Fit.Ad{t:Ht}(h:t.Fit):t.Ad<=90000:=le_trans (Ht.Ys h.full) h.most
theorem Ht.Fit.Ob{t:Ht}(h:t.Fit):(0<=DL t.hs/\DL t.hs<=2000000000000)/\0<=DG t.hs/\DG t.hs<=2000000000000:=by
 have h1:=h.Hz.Ob;have h2:=h.most;omega
theorem Ht.Fit.left{l r:Ht}(h:(Ht.node l r).Fit):l.Fit:=⟨h.full.2.2.1,h.Hz.left,by have:=h.most;rw[Ht.hs,length_append]at this;omega⟩
theorem Ht.Fit.right{l r:Ht}(h:(Ht.node l r).Fit):r.Fit:=⟨h.full.2.2.2,h.Hz.right,by have:=h.most;rw[Ht.hs,length_append]at this;omega⟩
theorem Dd(l r:Ht)(lv rv:Value)(w:World)(hl:CD B l lv w)(hr:CD B r rv w)(hf:(Ht.node l r).Fit):
 Calls prog 273 #[lv,rv] w (Gd (CD B (.node l r)) w):=by
 obtain ⟨hB,F1,hl,Iz⟩:=hl;obtain ⟨_,F2,hr,Hr⟩:=hr;obtain ⟨k1,a0,a1,a2,rfl,h1⟩:=hl.D6 hf.full.1;obtain ⟨k2,b0,b1,b2,rfl,h2⟩:=hr.D6 hf.full.2.1;have f1:=hf.left.Ob;have f2:=hf.right.Ob;have f3:=hf.left.Ad;have f4:=hf.right.Ad;have f5:=hf.most;rw[Ht.hs,length_append]at f5;unfold Bm at h1 h2;have HN:=AC (do0 k1 k2 a0 a1 a2 b0 b1 b2 l.hs.length r.hs.length l.Ad r.Ad (DL l.hs) (DG l.hs) (DL r.hs) (DG r.hs) w h1 h2 f5 ⟨f3,f4⟩ ⟨AD,AD⟩ ⟨AD,AD⟩);have HT:Hid (∀(w':World) (g:Nat),w.heap.size<=g->AA w w'->w'.heap[g]?=some (.cells #[.pointer (some ⟨k1,0,none⟩),.pointer (some ⟨k2,0,none⟩),.slice none 0 0,.int .i64 ((l.hs.length+r.hs.length:Nat):Int),.int .i64 (DL l.hs+DL r.hs),.int .i64 (DG l.hs+DG r.hs),.int .i64 ((1+max l.Ad r.Ad:Nat):Int)] 249)->CD B (.node l r) (.pointer (some ⟨g,0,none⟩)) w'):=AC (fun w' g fV a hg=>by
  refine ⟨le_trans hB a.below.size,_,⟨g,_,_,F1,F2,rfl,rfl,hf.full.1,hf.full.2.1,?_,hl.later a,hr.later a⟩,fun b q=>?_⟩
  ·unfold Bm;rw[Ht.hs,length_append,EC,EO];exact hg
  ·rcases List.mem_cons.1 q with rfl|q
   ·exact le_trans hB fV
   ·rcases List.mem_append.1 q with q|q
    ·exact Iz b q
    ·exact Hr b q)
 clear hl hr h1 h2 f1 f2 f3 f4 f5 hf Iz Hr hB;generalize l.hs.length+r.hs.length=N at *;generalize DL l.hs+DL r.hs=R at *;generalize DG l.hs+DG r.hs=H at *;generalize max l.Ad r.Ad=M at *;go_enter func273,ntmps273;go_wp2_with fail;refine HN.out.mono ?_;rintro e w1 ⟨g,rfl,fV,b1,hg⟩;have HG:=AC (And.intro b1 (And.intro hg fV));clear b1 hg fV;go_wp2_with fail;go_ret;exact ⟨_,rfl,HG.out.1,HT _ _ HG.out.2.2 HG.out.1 HG.out.2.1⟩
theorem DN(l r:Ht)(lv rv:Value)(w:World)(c:Bool)(hc:decide (r.Ad+1<l.Ad)=c)(hl:CD B l lv w)(hr:CD B r rv w)(nl:l≠.nil)(nr:r≠.nil)(h1:l.Ad<=90000)(h2:r.Ad<=90000):
 Calls prog 271 #[lv,rv] w fun e w'=>e=.returned (.bool c)/\AA w w':=by
 obtain ⟨k1,a0,a1,a2,rfl,h3⟩:=hl.D6 nl;obtain ⟨k2,b0,b1,b2,rfl,h4⟩:=hr.D6 nr;have HC:Hid (decide ((r.Ad:Int)+1<(l.Ad:Int))=c):=AC (by rw[<-hc];simp only[decide_eq_decide];omega);unfold Bm at h3 h4;have r1:=AE h3;have r2:=AE h4;clear hl hr hc h3 h4 nl nr;generalize l.Ad=x at *;generalize r.Ad=y at *;go_enter func271,ntmps271;go_wp2_with fail
 go_quiet (fail)
 go_wp2_with fail;go_ret;exact ⟨Am HC.out,BQ⟩
end
section
variable {B:Nat}
theorem Ht.Fit.of{t:Ht}{l r:Ht}(h:(Ht.node l r).Fit)(e:t.hs=l.hs++r.hs)(f:t.Full):t.Fit:=⟨f,by rw[e];exact h.Hz,by rw[e];exact h.most⟩
theorem Jt(o i r:Ht)(v rv:Value)(w:World)(h:CD B (.node o i) v w)(hr:CD B r rv w)(hf:(Ht.node (.node o i) r).Fit)(JW:i.Ad<=o.Ad):
 Calls prog 297 #[v,rv] w (Gd (CD B (.node o (.node i r))) w):=by
 have F1:(Ht.node i r).Fit:=⟨⟨hf.full.2.2.1.2.1,hf.full.2.1,hf.full.2.2.1.2.2.2,hf.full.2.2.2⟩,hf.left.right.Hz.append hf.right.Hz,by have:=hf.most;simp only[Ht.hs,length_append]at this ⊢;omega⟩;have F2:(Ht.node o (.node i r)).Fit:=hf.of (by simp[Ht.hs]) ⟨hf.full.2.2.1.1,Ar,hf.full.2.2.1.2.2.1,F1.full⟩;obtain ⟨k,ov,iv,rfl,no,ni,hk,ho,hi⟩:=h.node;have Oc:=AC (fun (w':World) (b:AA w w')=>Dd i r iv rv w' (AV b hi) (AV b hr) F1);have Kw:=AC (fun (w':World) (u:Value) (b:AA w w') (hu:CD B (.node i r) u w')=>Dd o (.node i r) ov u w' (AV b ho) hu F2);obtain ⟨ko,a0,a1,a2,rfl,h1⟩:=ho.D6 no;obtain ⟨ki,b0,b1,b2,rfl,h2⟩:=hi.D6 ni;unfold Bm at hk h1 h2;have r0:=AE hk;have r1:=AE h1;have r2:=AE h2;have d1:decide ((i.Ad:Nat)<=o.Ad)=true:=decide_eq_true JW;clear ho hi hr hk h1 h2 JW F1 F2 hf;generalize o.Ad=x1 at *;generalize i.Ad=x2 at *;go_enter func297,ntmps297;go_wp2_with fail
 go_quiet (fail)
 obtain ⟨n1,rfl⟩:∃n1,n1=nq:=⟨_,rfl⟩;go_wp2_with fail
 go_quiet (fail)
 go_wp2_with fail;refine (Oc _ ((AA.refl w).drewN _)).mono ?_;rintro e w2 ⟨u,rfl,c2,p2⟩;have a2:=((AA.refl w).drewN _).trans c2;go_wp2_with fail;refine (Kw _ _ a2 p2).mono ?_;rintro e w3 ⟨u3,rfl,c3,p3⟩;have HU:=AC (And.intro (a2.trans c3) p3);clear c3 p3;go_wp2_with fail;go_ret;exact ⟨_,rfl,HU.out.1,HU.out.2⟩
theorem Nq(o a b r:Ht)(v rv:Value)(w:World)(h:CD B (.node o (.node a b)) v w)(hr:CD B r rv w)(hf:(Ht.node (.node o (.node a b)) r).Fit)(JW:¬(Ht.node a b).Ad<=o.Ad):
 Calls prog 297 #[v,rv] w (Gd (CD B (.node (.node o a) (.node b r))) w):=by
 have hm:=hf.most;simp only[Ht.hs,length_append]at hm;have F1:(Ht.node o a).Fit:=⟨⟨hf.full.2.2.1.1,hf.full.2.2.1.2.2.2.1,hf.full.2.2.1.2.2.1,hf.full.2.2.1.2.2.2.2.2.1⟩,hf.left.left.Hz.append hf.left.right.left.Hz,by simp only[Ht.hs,length_append];omega⟩;have F2:(Ht.node b r).Fit:=⟨⟨hf.full.2.2.1.2.2.2.2.1,hf.full.2.1,hf.full.2.2.1.2.2.2.2.2.2,hf.full.2.2.2⟩,hf.left.right.right.Hz.append hf.right.Hz,by simp only[Ht.hs,length_append];omega⟩;have F3:(Ht.node (.node o a) (.node b r)).Fit:=hf.of (by simp[Ht.hs]) ⟨Ar,Ar,F1.full,F2.full⟩;obtain ⟨k,ov,iv,rfl,no,ni,hk,ho,hi⟩:=h.node;obtain ⟨ki,av,bv,rfl,na,nb,h2,ha,hb⟩:=hi.node;have Oc:=AC (fun (w':World) (c:AA w w')=>Dd o a ov av w' (AV c ho) (AV c ha) F1);have Kw:=AC (fun (w':World) (c:AA w w')=>Dd b r bv rv w' (AV c hb) (AV c hr) F2);have XL:=AC (fun (w':World) (x y:Value) (_:AA w w') (hx:CD B (.node o a) x w') (hy:CD B (.node b r) y w')=>Dd (.node o a) (.node b r) x y w' hx hy F3);obtain ⟨ko,a0,a1,a2,rfl,h1⟩:=ho.D6 no;obtain ⟨qa,rfl⟩:=ha.ptr;obtain ⟨qb,rfl⟩:=hb.ptr;unfold Bm at hk h1 h2;have TR:=h2;have Bx:=AE hk;have To:=AE h1;have tE:=AE h2;have d1:decide ((Ht.node a b).Ad<=o.Ad)=false:=decide_eq_false JW;clear ho ha hb hr hk h1 h2 JW F1 F2 F3 hf hm;generalize o.Ad=x1 at *;generalize (Ht.node a b).Ad=x2 at *;go_enter func297,ntmps297;go_wp2_with fail
 go_quiet (fail)
 obtain ⟨n1,rfl⟩:∃n1,n1=nq:=⟨_,rfl⟩;go_wp2_with fail
 go_quiet (fail)
 go_wp2_with fail;obtain ⟨w2,PH⟩:=BZ ((w.drewN n1).drewN nq);rw[PH];have AL:AA w w2:=by rw[<-PH];exact ((AA.refl w).drewN _).drewN _
 clear PH;have AR:=AL;have DM:=AB AL TR;(try clear Bx);(try clear To);(try clear tE);apply Wild.AP (13) [⟨5,36,undef,true,CD B (.node o a)⟩,⟨11,42,undef,true,CD B (.node b r)⟩,⟨12,43,undef,true,CD B (.node (.node o a) (.node b r))⟩] [⟨5,36,CD B (.node o a)⟩,⟨11,42,CD B (.node b r)⟩,⟨12,43,CD B (.node (.node o a) (.node b r))⟩] rfl AY AY AY Ar AY
 case hstab=>
  intro c hc;rcases Cv hc with rfl|rfl|rfl
  ·intro v x y BE hv;exact AV BE hv
  ·intro v x y BE hv;exact AV BE hv
  ·intro v x y BE hv;exact AV BE hv
 case hfix=>
  intro c hc;rcases Cv hc with rfl|rfl|rfl
  ·exact .inl rfl
  ·exact .inl rfl
  ·exact .inl rfl
 case hlex=>
  intro U hU;have q2:=AE (AB hU DM);refine Hj ?_
  repeat (go_big_quiet_step (fail))
  exact wpQuiet_nil rfl
 case hstep=>
  intro j hj o ho;have CQ:j=0\/j=1\/j=2:=by simp at hj;omega
  rcases CQ with rfl|rfl|rfl
  ·cases ho;refine ⟨rfl,fun g x hx hp=>?_⟩;clear hp;refine Bp ?_;refine AO ?_ (Wild.Ai (Oc x (AR.trans hx)));simp[go_sem,execOp]
  ·cases ho;refine ⟨rfl,fun g x hx hp=>?_⟩;clear hp;refine Bp ?_;refine AO ?_ (Wild.Ai (Kw x (AR.trans hx)));simp[go_sem,execOp]
  ·cases ho;refine ⟨rfl,fun g x hx hp=>?_⟩;have vQ:(CD B (.node o a)) (g 5) x:=hp _ (mem_of_getElem? (i:=0) rfl) (List.contains_iff_mem.1 AY);have zu:(CD B (.node b r)) (g 11) x:=hp _ (mem_of_getElem? (i:=1) rfl) (List.contains_iff_mem.1 AY);clear hp;refine Bp ?_;refine AO ?_ (Wild.Ai (XL _ _ _ (AR.trans hx) vQ zu));simp[go_sem,execOp]
 case htail=>
  intro g u Aw Az;have AX:AA w2 (later u):=⟨u,rfl⟩;generalize later u=w3 at *;clear u Az;obtain ⟨ZT,-⟩:=Aw _ (mem_of_getElem? (i:=0) rfl);(try dsimp only at ZT)
  obtain ⟨NV,-⟩:=Aw _ (mem_of_getElem? (i:=1) rfl);(try dsimp only at NV)
  obtain ⟨QJ,-⟩:=Aw _ (mem_of_getElem? (i:=2) rfl);(try dsimp only at QJ)
  clear Aw;refine DH ?_;generalize g 5=v36 at *;generalize g 11=v42 at *;generalize g 12=v43 at *;have An:=AR.trans AX;go_wp2_with fail;go_ret;exact ⟨_,rfl,An,QJ⟩
theorem QK(o i r:Ht)(v rv:Value)(w:World)(t:Ht)(ht:Ht.turnR (.node o i) r=t)(h:CD B (.node o i) v w)(hr:CD B r rv w)(hf:(Ht.node (.node o i) r).Fit):
 Calls prog 297 #[v,rv] w (Gd (CD B t) w):=by
 subst ht
 cases i with
 |nil=>exact absurd rfl hf.full.2.2.1.2.1
 |leaf b l=>exact Jt o (.leaf b l) r v rv w h hr hf (Ht.D7 hf.full.2.2.1.1)
 |node a b=>
  rw[Ht.E_];split
  ·rename_i hc
   exact Jt o _ r v rv w h hr hf hc
  ·rename_i hc
   exact Nq o a b r v rv w h hr hf hc
theorem Kd(l i o:Ht)(lv v:Value)(w:World)(hl:CD B l lv w)(h:CD B (.node i o) v w)(hf:(Ht.node l (.node i o)).Fit)(JW:i.Ad<=o.Ad):
 Calls prog 298 #[lv,v] w (Gd (CD B (.node (.node l i) o)) w):=by
 have hm:=hf.most;simp only[Ht.hs,length_append]at hm;have F1:(Ht.node l i).Fit:=⟨⟨hf.full.1,hf.full.2.2.2.1,hf.full.2.2.1,hf.full.2.2.2.2.2.1⟩,hf.left.Hz.append hf.right.left.Hz,by simp only[Ht.hs,length_append];omega⟩;have F2:(Ht.node (.node l i) o).Fit:=hf.of (by simp[Ht.hs]) ⟨Ar,hf.full.2.2.2.2.1,F1.full,hf.full.2.2.2.2.2.2⟩;obtain ⟨k,iv,ov,rfl,ni,no,hk,hi,ho⟩:=h.node;have Oc:=AC (fun (w':World) (b:AA w w')=>Dd l i lv iv w' (AV b hl) (AV b hi) F1);have Kw:=AC (fun (w':World) (u:Value) (b:AA w w') (hu:CD B (.node l i) u w')=>Dd (.node l i) o u ov w' hu (AV b ho) F2);obtain ⟨ko,a0,a1,a2,rfl,h1⟩:=ho.D6 no;obtain ⟨ki,b0,b1,b2,rfl,h2⟩:=hi.D6 ni;unfold Bm at hk h1 h2;have r0:=AE hk;have r1:=AE h1;have r2:=AE h2;have d1:decide ((i.Ad:Nat)<=o.Ad)=true:=decide_eq_true JW;clear ho hi hl hk h1 h2 JW F1 F2 hf hm;generalize o.Ad=x1 at *;generalize i.Ad=x2 at *;go_enter func298,ntmps298;go_wp2_with fail
 go_quiet (fail)
 obtain ⟨n1,rfl⟩:∃n1,n1=nq:=⟨_,rfl⟩;go_wp2_with fail
 go_quiet (fail)
 go_wp2_with fail;refine (Oc _ ((AA.refl w).drewN _)).mono ?_;rintro e w2 ⟨u,rfl,c2,p2⟩;have a2:=((AA.refl w).drewN _).trans c2;go_wp2_with fail;refine (Kw _ _ a2 p2).mono ?_;rintro e w3 ⟨u3,rfl,c3,p3⟩;have HU:=AC (And.intro (a2.trans c3) p3);clear c3 p3;go_wp2_with fail;go_ret;exact ⟨_,rfl,HU.out.1,HU.out.2⟩
theorem Oh(l a b o:Ht)(lv v:Value)(w:World)(hl:CD B l lv w)(h:CD B (.node (.node a b) o) v w)(hf:(Ht.node l (.node (.node a b) o)).Fit)(JW:¬(Ht.node a b).Ad<=o.Ad):
 Calls prog 298 #[lv,v] w (Gd (CD B (.node (.node l a) (.node b o))) w):=by
 have hm:=hf.most;simp only[Ht.hs,length_append]at hm;have F1:(Ht.node l a).Fit:=⟨⟨hf.full.1,hf.full.2.2.2.2.2.1.1,hf.full.2.2.1,hf.full.2.2.2.2.2.1.2.2.1⟩,hf.left.Hz.append hf.right.left.left.Hz,by simp only[Ht.hs,length_append];omega⟩;have F2:(Ht.node b o).Fit:=⟨⟨hf.full.2.2.2.2.2.1.2.1,hf.full.2.2.2.2.1,hf.full.2.2.2.2.2.1.2.2.2,hf.full.2.2.2.2.2.2⟩,hf.right.left.right.Hz.append hf.right.right.Hz,by simp only[Ht.hs,length_append];omega⟩;have F3:(Ht.node (.node l a) (.node b o)).Fit:=hf.of (by simp[Ht.hs]) ⟨Ar,Ar,F1.full,F2.full⟩;obtain ⟨k,iv,ov,rfl,ni,no,hk,hi,ho⟩:=h.node;obtain ⟨ki,av,bv,rfl,na,nb,h2,ha,hb⟩:=hi.node;have Oc:=AC (fun (w':World) (c:AA w w')=>Dd l a lv av w' (AV c hl) (AV c ha) F1);have Kw:=AC (fun (w':World) (c:AA w w')=>Dd b o bv ov w' (AV c hb) (AV c ho) F2);have XL:=AC (fun (w':World) (x y:Value) (_:AA w w') (hx:CD B (.node l a) x w') (hy:CD B (.node b o) y w')=>Dd (.node l a) (.node b o) x y w' hx hy F3);obtain ⟨ko,a0,a1,a2,rfl,h1⟩:=ho.D6 no;obtain ⟨qa,rfl⟩:=ha.ptr;obtain ⟨qb,rfl⟩:=hb.ptr;unfold Bm at hk h1 h2;have TR:=h2;have Bx:=AE hk;have To:=AE h1;have tE:=AE h2;have d1:decide ((Ht.node a b).Ad<=o.Ad)=false:=decide_eq_false JW;clear ho ha hb hl hk h1 h2 JW F1 F2 F3 hf hm;generalize o.Ad=x1 at *;generalize (Ht.node a b).Ad=x2 at *;go_enter func298,ntmps298;go_wp2_with fail
 go_quiet (fail)
 obtain ⟨n1,rfl⟩:∃n1,n1=nq:=⟨_,rfl⟩;go_wp2_with fail
 go_quiet (fail)
 go_wp2_with fail;obtain ⟨w2,PH⟩:=BZ ((w.drewN n1).drewN nq);rw[PH];have AL:AA w w2:=by rw[<-PH];exact ((AA.refl w).drewN _).drewN _
 clear PH;have AR:=AL;have DM:=AB AL TR;(try clear Bx);(try clear To);(try clear tE);apply Wild.AP (13) [⟨5,36,undef,true,CD B (.node l a)⟩,⟨11,42,undef,true,CD B (.node b o)⟩,⟨12,43,undef,true,CD B (.node (.node l a) (.node b o))⟩] [⟨5,36,CD B (.node l a)⟩,⟨11,42,CD B (.node b o)⟩,⟨12,43,CD B (.node (.node l a) (.node b o))⟩] rfl AY AY AY Ar AY
 case hstab=>
  intro c hc;rcases Cv hc with rfl|rfl|rfl
  ·intro v x y BE hv;exact AV BE hv
  ·intro v x y BE hv;exact AV BE hv
  ·intro v x y BE hv;exact AV BE hv
 case hfix=>
  intro c hc;rcases Cv hc with rfl|rfl|rfl
  ·exact .inl rfl
  ·exact .inl rfl
  ·exact .inl rfl
 case hlex=>
  intro U hU;have q2:=AE (AB hU DM);refine Hj ?_
  repeat (go_big_quiet_step (fail))
  exact wpQuiet_nil rfl
 case hstep=>
  intro j hj o ho;have CQ:j=0\/j=1\/j=2:=by simp at hj;omega
  rcases CQ with rfl|rfl|rfl
  ·cases ho;refine ⟨rfl,fun g x hx hp=>?_⟩;clear hp;refine Bp ?_;refine AO ?_ (Wild.Ai (Oc x (AR.trans hx)));simp[go_sem,execOp]
  ·cases ho;refine ⟨rfl,fun g x hx hp=>?_⟩;clear hp;refine Bp ?_;refine AO ?_ (Wild.Ai (Kw x (AR.trans hx)));simp[go_sem,execOp]
  ·cases ho;refine ⟨rfl,fun g x hx hp=>?_⟩;have vQ:(CD B (.node l a)) (g 5) x:=hp _ (mem_of_getElem? (i:=0) rfl) (List.contains_iff_mem.1 AY);have zu:(CD B (.node b o)) (g 11) x:=hp _ (mem_of_getElem? (i:=1) rfl) (List.contains_iff_mem.1 AY);clear hp;refine Bp ?_;refine AO ?_ (Wild.Ai (XL _ _ _ (AR.trans hx) vQ zu));simp[go_sem,execOp]
 case htail=>
  intro g u Aw Az;have AX:AA w2 (later u):=⟨u,rfl⟩;generalize later u=w3 at *;clear u Az;obtain ⟨ZT,-⟩:=Aw _ (mem_of_getElem? (i:=0) rfl);(try dsimp only at ZT)
  obtain ⟨NV,-⟩:=Aw _ (mem_of_getElem? (i:=1) rfl);(try dsimp only at NV)
  obtain ⟨QJ,-⟩:=Aw _ (mem_of_getElem? (i:=2) rfl);(try dsimp only at QJ)
  clear Aw;refine DH ?_;generalize g 5=v36 at *;generalize g 11=v42 at *;generalize g 12=v43 at *;have An:=AR.trans AX;go_wp2_with fail;go_ret;exact ⟨_,rfl,An,QJ⟩
theorem RR(l i o:Ht)(lv v:Value)(w:World)(t:Ht)(ht:Ht.turnL l (.node i o)=t)(hl:CD B l lv w)(h:CD B (.node i o) v w)(hf:(Ht.node l (.node i o)).Fit):
 Calls prog 298 #[lv,v] w (Gd (CD B t) w):=by
 subst ht
 cases i with
 |nil=>exact absurd rfl hf.full.2.2.2.1
 |leaf b q=>exact Kd l (.leaf b q) o lv v w hl h hf (Ht.D7 hf.full.2.2.2.2.1)
 |node a b=>
  rw[Ht.E6];split
  ·rename_i hc
   exact Kd l _ o lv v w hl h hf hc
  ·rename_i hc
   exact Oh l a b o lv v w hl h hf hc
end
section
variable {B:Nat}
theorem Sm(l r:Ht)(lv rv:Value)(w:World)(t:Ht)(ht:Ht.even l r=t)(hl:CD B l lv w)(hr:CD B r rv w)(hf:(Ht.node l r).Fit):
 Calls prog 272 #[lv,rv] w (Gd (CD B t) w):=by
 have v1:=hf.left.Ad;have v2:=hf.right.Ad;have nl:=hf.full.1;have nr:=hf.full.2.1;unfold Ht.even at ht;by_cases c1:r.Ad+1<l.Ad
 ·have HD:=AC (fun (w':World) (b:AA w w')=>DN l r lv rv w' true (by simpa using c1) (AV b hl) (AV b hr) nl nr v1 v2);rw[if_pos c1]at ht;have HT:Hid (∀(w':World),AA w w'->Calls prog 297 #[lv,rv] w' (Gd (CD B t) w')):=AC (fun w' b=>by
   cases l with
   |nil=>exact absurd rfl nl
   |leaf _ _=>have:=Ht.D7 nr;simp only[Ht.Ad]at c1;omega
   |node o i=>exact QK o i r lv rv w' t ht (AV b hl) (AV b hr) hf)
  clear hl hr hf ht c1 v1 v2 nl nr;go_enter func272,ntmps272;go_wp2_with fail;refine (HD _ (AA.refl w)).mono ?_;rintro e w1 ⟨rfl,b1⟩;go_wp2_with fail;refine (HT _ b1).mono ?_;rintro e w3 ⟨u,rfl,b3,hu⟩;have HU:=AC (And.intro (b1.trans b3) hu);clear b3 hu;go_wp2_with fail;go_ret;exact ⟨_,rfl,HU.out.1,HU.out.2⟩
 ·have HD:=AC (fun (w':World) (b:AA w w')=>DN l r lv rv w' false (by simpa using c1) (AV b hl) (AV b hr) nl nr v1 v2);rw[if_neg c1]at ht;by_cases c2:l.Ad+1<r.Ad
  ·have Rd:=AC (fun (w':World) (b:AA w w')=>DN r l rv lv w' true (by simpa using c2) (AV b hr) (AV b hl) nr nl v2 v1);rw[if_pos c2]at ht;have HT:Hid (∀(w':World),AA w w'->Calls prog 298 #[lv,rv] w' (Gd (CD B t) w')):=AC (fun w' b=>by
    cases r with
    |nil=>exact absurd rfl nr
    |leaf _ _=>have:=Ht.D7 nl;simp only[Ht.Ad]at c2;omega
    |node i o=>exact RR l i o lv rv w' t ht (AV b hl) (AV b hr) hf)
   clear hl hr hf ht c1 c2 v1 v2 nl nr;go_enter func272,ntmps272;go_wp2_with fail;refine (HD _ (AA.refl w)).mono ?_;rintro e w1 ⟨rfl,b1⟩;go_wp2_with fail;refine (Rd _ b1).mono ?_;rintro e w2 ⟨rfl,b2⟩;have b2:=b1.trans b2;go_wp2_with fail;refine (HT _ b2).mono ?_;rintro e w3 ⟨u,rfl,b3,hu⟩;have HU:=AC (And.intro (b2.trans b3) hu);clear b3 hu;go_wp2_with fail;go_ret;exact ⟨_,rfl,HU.out.1,HU.out.2⟩
  ·have Rd:=AC (fun (w':World) (b:AA w w')=>DN r l rv lv w' false (by simpa using c2) (AV b hr) (AV b hl) nr nl v2 v1);rw[if_neg c2]at ht;have HT:Hid (∀(w':World),AA w w'->Calls prog 273 #[lv,rv] w' (Gd (CD B t) w')):=AC (fun w' b=>by
    subst ht;exact Dd l r lv rv w' (AV b hl) (AV b hr) hf)
   clear hl hr hf ht c1 c2 v1 v2 nl nr;go_enter func272,ntmps272;go_wp2_with fail;refine (HD _ (AA.refl w)).mono ?_;rintro e w1 ⟨rfl,b1⟩;go_wp2_with fail;refine (Rd _ b1).mono ?_;rintro e w2 ⟨rfl,b2⟩;have b2:=b1.trans b2;go_wp2_with fail;refine (HT _ b2).mono ?_;rintro e w3 ⟨u,rfl,b3,hu⟩;have HU:=AC (And.intro (b2.trans b3) hu);clear b3 hu;go_wp2_with fail;go_ret;exact ⟨_,rfl,HU.out.1,HU.out.2⟩
def Qt(B n:Nat):Prop:=∀(l r:Ht) (lv rv:Value) (w:World) (t:Ht),l.np+r.np<=n->Ht.join l r=t->CD B l lv w->CD B r rv w->l.Cd->r.Cd->D8 l.hs->D8 r.hs->l.hs.length+r.hs.length<=90000->
 Calls prog 254 #[lv,rv] w (Gd (CD B t) w)
theorem Sj(r:Ht)(rv:Value)(w:World)(hr:CD B r rv w):Calls prog 254 #[.pointer none,rv] w (Gd (CD B r) w):=by
 obtain ⟨q,rfl⟩:=hr.ptr;have HR:=AC hr;clear hr;go_enter func254,ntmps254;go_wp2_with fail;go_ret;exact ⟨_,rfl,AA.refl _,HR.out⟩
theorem Y5(k:Nat)(l:Ht)(w:World)(hl:CD B l (.pointer (some ⟨k,0,none⟩)) w):Calls prog 254 #[.pointer (some ⟨k,0,none⟩),.pointer none] w (Gd (CD B l) w):=by
 have HR:=AC hl;clear hl;go_enter func254,ntmps254;go_wp2_with fail;go_ret;exact ⟨_,rfl,AA.refl _,HR.out⟩
theorem YZ(k1 k2:Nat)(l r:Ht)(w:World)(hl:CD B l (.pointer (some ⟨k1,0,none⟩)) w)(hr:CD B r (.pointer (some ⟨k2,0,none⟩)) w)(hf:(Ht.node l r).Fit)(c1:¬r.Ad+1<l.Ad)(c2:¬l.Ad+1<r.Ad):
 Calls prog 254 #[.pointer (some ⟨k1,0,none⟩),.pointer (some ⟨k2,0,none⟩)] w (Gd (CD B (.node l r)) w):=by
 have v1:=hf.left.Ad;have v2:=hf.right.Ad;have nl:=hf.full.1;have nr:=hf.full.2.1;have HD:=AC (fun (w':World) (b:AA w w')=>DN l r _ _ w' false (by simpa using c1) (AV b hl) (AV b hr) nl nr v1 v2);have Rd:=AC (fun (w':World) (b:AA w w')=>DN r l _ _ w' false (by simpa using c2) (AV b hr) (AV b hl) nr nl v2 v1);have HT:=AC (fun (w':World) (b:AA w w')=>Dd l r _ _ w' (AV b hl) (AV b hr) hf);clear hl hr hf c1 c2 v1 v2 nl nr;go_enter func254,ntmps254;go_wp2_with fail;refine (HD _ (AA.refl w)).mono ?_;rintro e w1 ⟨rfl,b1⟩;go_wp2_with fail;refine (Rd _ b1).mono ?_;rintro e w2 ⟨rfl,b2⟩;have b2:=b1.trans b2;go_wp2_with fail;refine (HT _ b2).mono ?_;rintro e w3 ⟨u,rfl,b3,hu⟩;have HU:=AC (And.intro (b2.trans b3) hu);clear b3 hu;go_wp2_with fail;go_ret;exact ⟨_,rfl,HU.out.1,HU.out.2⟩
theorem Xn(N:Nat)(ih:Qt B N)(k2:Nat)(a b r:Ht)(v:Value)(w:World)(hN:b.np+r.np<=N)(h:CD B (.node a b) v w)(hr:CD B r (.pointer (some ⟨k2,0,none⟩)) w)(nr:r≠.nil)(hl:(Ht.node a b).Cd)(oU:r.Cd)(hf:(Ht.node (.node a b) r).Fit)(c1:r.Ad+1<(Ht.node a b).Ad):
 Calls prog 254 #[v,.pointer (some ⟨k2,0,none⟩)] w (Gd (CD B (Ht.even a (Ht.join b r))) w):=by
 have v1:=hf.left.Ad;have v2:=hf.right.Ad;have hm:=hf.most;simp only[Ht.hs,length_append]at hm;have HD:=AC (fun (w':World) (e:AA w w')=>DN (.node a b) r v _ w' true (by simpa using c1) (AV e h) (AV e hr) Ar nr v1 v2);obtain ⟨k,av,bv,rfl,na,nb,hk,ha,hb⟩:=h.node;have hj:=Ht.KR _ b r (le_refl _) hl.right oU;have F1:(Ht.node a (Ht.join b r)).Fit:=hf.of (by simp[Ht.hs,Ht.IH]) ⟨na,hj.2.1 nb,hl.left.2,hj.1.2⟩;have HJ:=AC (fun (w':World) (e:AA w w')=>ih b r bv (.pointer (some ⟨k2,0,none⟩)) w' _ hN rfl (AV e hb) (AV e hr) hl.right oU hf.left.right.Hz hf.right.Hz AD);have HE:=AC (fun (w':World) (u:Value) (e:AA w w') (hu:CD B (Ht.join b r) u w')=>Sm a (Ht.join b r) av u w' _ rfl (AV e ha) hu F1);obtain ⟨qa,rfl⟩:=ha.ptr;obtain ⟨qb,rfl⟩:=hb.ptr;unfold Bm at hk;have Ag:=hk;clear ha hb hr hk hf hm hN ih v1 v2 c1 hl oU nr hj F1;go_enter func254,ntmps254;go_wp2_with fail;refine (HD _ (AA.refl w)).mono ?_;rintro e w1 ⟨rfl,AJ⟩;have AG:=AJ;have AH:=AB AJ Ag;go_wp2_with fail;apply Wild.AP (11) [⟨9,26,undef,true,CD B (Ht.join b r)⟩,⟨10,27,undef,true,CD B (Ht.even a (Ht.join b r))⟩] [⟨9,26,CD B (Ht.join b r)⟩,⟨10,27,CD B (Ht.even a (Ht.join b r))⟩] rfl AY AY AY Ar AY
 case hstab=>
  intro c hc;rcases Cv hc with rfl|rfl
  ·intro v x y BE hv;exact AV BE hv
  ·intro v x y BE hv;exact AV BE hv
 case hfix=>
  intro c hc;rcases Cv hc with rfl|rfl
  ·exact .inl rfl
  ·exact .inl rfl
 case hlex=>
  intro U hU;have q0:=AE (AB hU AH);refine Hj ?_
  repeat (go_big_quiet_step (fail))
  exact wpQuiet_nil rfl
 case hstep=>
  intro j hj o ho;have CQ:j=0\/j=1:=by simp at hj;omega
  rcases CQ with rfl|rfl
  ·cases ho;refine ⟨rfl,fun g x hx hp=>?_⟩;clear hp;refine Bp ?_;refine AO ?_ (Wild.Ai (HJ x (AG.trans hx)));simp[go_sem,execOp]
  ·cases ho;refine ⟨rfl,fun g x hx hp=>?_⟩;have p26:(CD B (Ht.join b r)) (g 9) x:=hp _ (mem_of_getElem? (i:=0) rfl) (List.contains_iff_mem.1 AY);clear hp;refine Bp ?_;refine AO ?_ (Wild.Ai (HE _ _ (AG.trans hx) p26));simp[go_sem,execOp]
 case htail=>
  intro g u Aw Az;have AL:AA w1 (later u):=⟨u,rfl⟩;generalize later u=w2 at *;clear u Az;obtain ⟨sC,-⟩:=Aw _ (mem_of_getElem? (i:=0) rfl);(try dsimp only at sC)
  obtain ⟨jI,-⟩:=Aw _ (mem_of_getElem? (i:=1) rfl);(try dsimp only at jI)
  clear Aw;refine DH ?_;generalize g 9=v26 at *;generalize g 10=v27 at *;have AR:=AG.trans AL;go_wp2_with fail;go_ret;exact ⟨_,rfl,AR,jI⟩
theorem Vi(N:Nat)(ih:Qt B N)(k1:Nat)(l a b:Ht)(v:Value)(w:World)(hN:l.np+a.np<=N)(h:CD B (.node a b) v w)(hl:CD B l (.pointer (some ⟨k1,0,none⟩)) w)(nl:l≠.nil)(hr:(Ht.node a b).Cd)(IY:l.Cd)(hf:(Ht.node l (.node a b)).Fit)(c1:¬(Ht.node a b).Ad+1<l.Ad)(c2:l.Ad+1<(Ht.node a b).Ad):
 Calls prog 254 #[.pointer (some ⟨k1,0,none⟩),v] w (Gd (CD B (Ht.even (Ht.join l a) b)) w):=by
 have v1:=hf.left.Ad;have v2:=hf.right.Ad;have hm:=hf.most;simp only[Ht.hs,length_append]at hm;have HD:=AC (fun (w':World) (e:AA w w')=>DN l (.node a b) _ v w' false (by simpa using c1) (AV e hl) (AV e h) nl Ar v1 v2);have Rd:=AC (fun (w':World) (e:AA w w')=>DN (.node a b) l v _ w' true (by simpa using c2) (AV e h) (AV e hl) Ar nl v2 v1);obtain ⟨k,av,bv,rfl,na,nb,hk,ha,hb⟩:=h.node;have hj:=Ht.KR _ l a (le_refl _) IY hr.left;have F1:(Ht.node (Ht.join l a) b).Fit:=hf.of (by simp[Ht.hs,Ht.IH]) ⟨hj.2.1 nl,nb,hj.1.2,hr.right.2⟩;have HJ:=AC (fun (w':World) (e:AA w w')=>ih l a (.pointer (some ⟨k1,0,none⟩)) av w' _ hN rfl (AV e hl) (AV e ha) IY hr.left hf.left.Hz hf.right.left.Hz AD);have HE:=AC (fun (w':World) (u:Value) (e:AA w w') (hu:CD B (Ht.join l a) u w')=>Sm (Ht.join l a) b u bv w' _ rfl hu (AV e hb) F1);obtain ⟨qa,rfl⟩:=ha.ptr;obtain ⟨qb,rfl⟩:=hb.ptr;unfold Bm at hk;have Ag:=hk;clear ha hb hr hk hf hm hN ih v1 v2 c1 c2 hl IY nl hj F1;go_enter func254,ntmps254;go_wp2_with fail;refine (HD _ (AA.refl w)).mono ?_;rintro e w1 ⟨rfl,AJ⟩;have AG:=AJ;have AH:=AB AJ Ag;go_wp2_with fail;refine (Rd _ AG).mono ?_;rintro e w2 ⟨rfl,AL⟩;have AR:=AG.trans AL;have AU:=AB AL AH;go_wp2_with fail;apply Wild.AP (11) [⟨5,37,undef,true,CD B (Ht.join l a)⟩,⟨10,42,undef,true,CD B (Ht.even (Ht.join l a) b)⟩] [⟨5,37,CD B (Ht.join l a)⟩,⟨10,42,CD B (Ht.even (Ht.join l a) b)⟩] rfl AY AY AY Ar AY
 case hstab=>
  intro c hc;rcases Cv hc with rfl|rfl
  ·intro v x y BE hv;exact AV BE hv
  ·intro v x y BE hv;exact AV BE hv
 case hfix=>
  intro c hc;rcases Cv hc with rfl|rfl
  ·exact .inl rfl
  ·exact .inl rfl
 case hlex=>
  intro U hU;have q0:=AE (AB hU AU);refine Hj ?_
  repeat (go_big_quiet_step (fail))
  exact wpQuiet_nil rfl
 case hstep=>
  intro j hj o ho;have CQ:j=0\/j=1:=by simp at hj;omega
  rcases CQ with rfl|rfl
  ·cases ho;refine ⟨rfl,fun g x hx hp=>?_⟩;clear hp;refine Bp ?_;refine AO ?_ (Wild.Ai (HJ x (AR.trans hx)));simp[go_sem,execOp]
  ·cases ho;refine ⟨rfl,fun g x hx hp=>?_⟩;have xK:(CD B (Ht.join l a)) (g 5) x:=hp _ (mem_of_getElem? (i:=0) rfl) (List.contains_iff_mem.1 AY);clear hp;refine Bp ?_;refine AO ?_ (Wild.Ai (HE _ _ (AR.trans hx) xK));simp[go_sem,execOp]
 case htail=>
  intro g u Aw Az;have AX:AA w2 (later u):=⟨u,rfl⟩;generalize later u=w3 at *;clear u Az;obtain ⟨tf,-⟩:=Aw _ (mem_of_getElem? (i:=0) rfl);(try dsimp only at tf)
  obtain ⟨NV,-⟩:=Aw _ (mem_of_getElem? (i:=1) rfl);(try dsimp only at NV)
  clear Aw;refine DH ?_;generalize g 5=v37 at *;generalize g 10=v42 at *;have An:=AR.trans AX;go_wp2_with fail;go_ret;exact ⟨_,rfl,An,NV⟩
theorem tP(n:Nat):Qt B n:=by
 induction n with
 |zero=>
  intro l r lv rv w t hN ht hl hr _ _ _ _ _;subst ht;have h3:=Ht.EH l;obtain rfl:=Ht.Mq (t:=l) AD
  rw[Ht.DO];obtain rfl:=hl.nil
  exact Sj r rv w hr
 |succ n ih=>
  intro l r lv rv w t hN ht hl hr fl fr tl tr hm;subst ht;by_cases l0:l=.nil
  ·subst l0;rw[Ht.DO];obtain rfl:=hl.nil
   exact Sj r rv w hr
  ·obtain ⟨k1,rfl⟩:=hl.there l0;by_cases r0:r=.nil
   ·subst r0;rw[Ht.Hu];obtain rfl:=hr.nil
    exact Y5 k1 l w hl
   ·obtain ⟨k2,rfl⟩:=hr.there r0;have hf:(Ht.node l r).Fit:=⟨⟨l0,r0,fl.2,fr.2⟩,tl.append tr,by rw[Ht.hs,length_append];exact hm⟩;by_cases c1:r.Ad+1<l.Ad
    ·cases l with
     |nil=>exact absurd rfl l0
     |leaf _ _=>simp only[Ht.Ad]at c1;omega
     |node a b=>
      rw[Ht.EY _ _ _ r0 c1];exact Xn n ih k2 a b r _ w (by simp only[Ht.np]at hN;omega) hl hr r0 fl fr hf c1
    ·by_cases c2:l.Ad+1<r.Ad
     ·cases r with
      |nil=>exact absurd rfl r0
      |leaf _ _=>simp only[Ht.Ad]at c2;omega
      |node a b=>
       rw[Ht.Ds _ _ _ l0 c1 c2];exact Vi n ih k1 l a b _ w (by simp only[Ht.np]at hN;omega) hr hl l0 fr fl hf c1 c2
     ·rw[Ht.Ew _ _ l0 r0 c1 c2];exact YZ k1 k2 l r w hl hr hf c1 c2
theorem LJ(l r:Ht)(lv rv:Value)(w:World)(t:Ht)(ht:Ht.join l r=t)(hl:CD B l lv w)(hr:CD B r rv w)(fl:l.Cd)(fr:r.Cd)(tl:D8 l.hs)(tr:D8 r.hs)(hm:l.hs.length+r.hs.length<=90000):
 Calls prog 254 #[lv,rv] w (Gd (CD B t) w):=tP _ l r lv rv w t (le_refl _) ht hl hr fl fr tl tr hm
end
end Go.Proofs.YtamhnffokoejjaaGreatDoor
