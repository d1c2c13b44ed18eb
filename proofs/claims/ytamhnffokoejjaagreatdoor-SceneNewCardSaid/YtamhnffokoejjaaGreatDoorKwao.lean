import Derived.Lib.AppendZeros
import Derived.Test.YtamhnffokoejjaaGreatDoorKwah
import Derived.Test.YtamhnffokoejjaaGreatDoorKwam
set_option linter.all false
set_option maxHeartbeats 3200000
set_option maxRecDepth 100000
namespace Go.Proofs.YtamhnffokoejjaaGreatDoor
open List(mem_of_getElem? length_append length_nil)
open Nat(le_trans le_refl zero_le)
open World(size_alloc)
open Go.Proofs.Tryz
open Go.RowKit
section
variable{a f i o t:Int}{j:Nat}{l m:Qs}{u v v1 v2 v3:Value}{w w' x:World}
def IK(a o i:Int)(s:Int × Int):Option (Int × Int):=if CJ s.1 a o i<DB s.2 a o i then some (CJ s.1 a o i,DB s.2 a o i) else none
theorem dk(f t a o i x y:Int)(w:World)(hx:CJ f a o i=x)(hy:DB t a o i=y)(h:x<y):Calls prog 124 #[.agg #[.int .i64 f,.int .i64 t],.agg #[.int .i64 a,.int .i64 o,.int .i64 i]] w fun e w'=>e=.returned (.tuple #[.agg #[.int .i64 x,.int .i64 y],.bool true])/\AA w w':=by
 have HX:=AC (fun w=>Pq f a o i w x hx);have HY:=AC (fun w=>SM t a o i w y hy);have d:decide (y<=x)=false:=decide_eq_false AD;clear hx hy;go_enter func124,ntmps124;go_wp2_with fail;refine BW (fun wS=>AA w wS/\wS.heap[w.heap.size]?=some (.cells #[.int .i64 f,.int .i64 t] 69)/\wS.heap[w.heap.size+1]?=some (.cells #[.int .i64 a,.int .i64 o,.int .i64 i] 125)/\wS.heap[w.heap.size+1+1]?=some (.cells #[.int .i64 0,.int .i64 0] 69)) ⟨BQ,CG,CG,CG⟩ ?_;rintro w1 ⟨AJ,AH,Aq,DA⟩;have AG:=AJ;apply AP (9) [⟨3,9,.int .i64 x,false,fun v _=>v=.int .i64 x⟩,⟨7,13,.int .i64 y,false,fun v _=>v=.int .i64 y⟩] [] rfl AY AY AY Ar AY
 case hstab=>
  intro c hc;rcases Cv hc with rfl|rfl
  ·intro v x y BE hv;exact hv
  ·intro v x y BE hv;exact hv
 case hfix=>
  intro c hc;rcases Cv hc with rfl|rfl
  ·exact .inr fun u x h=>h
  ·exact .inr fun u x h=>h
 case hlex=>
  intro U hU;have q0:=AE (AB hU AH);have q1:=AE (AB hU Aq);refine Hj ?_
  repeat (go_big_quiet_step (first|fail))
  exact wpQuiet_nil rfl
 case hstep=>
  intro j hj o ho;have CQ:j=0\/j=1:=by simp at hj;omega
  rcases CQ with rfl|rfl
  ·cases ho;refine ⟨rfl,fun g x hx hp=>?_⟩;clear hp;refine Bp ?_;refine AO ?_ (At (HX x));simp[go_sem,execOp]
  ·cases ho;refine ⟨rfl,fun g x hx hp=>?_⟩;clear hp;refine Bp ?_;refine AO ?_ (At (HY x));simp[go_sem,execOp]
 case htail=>
  intro g u Aw Az;have AL:AA w1 (later u):=⟨u,rfl⟩;generalize later u=w2 at *;clear u;clear Aw Az;refine DH ?_;have AR:=AG.trans AL;have AU:=AB AL AH;have DM:=AB AL DA;obtain ⟨BS,Dj⟩:=DX AU;obtain ⟨OK,R7⟩:=DX DM;go_wp2_with fail;refine bodyPost_ret (v:=.tuple #[.agg #[.int .i64 x,.int .i64 y],.bool true]) (by simp[results,results124,go_sem,BS,OK]) rfl ⟨rfl,?_⟩;exact BQ
theorem h_(f t a o i x y:Int)(w:World)(hx:CJ f a o i=x)(hy:DB t a o i=y)(h:¬x<y):Calls prog 124 #[.agg #[.int .i64 f,.int .i64 t],.agg #[.int .i64 a,.int .i64 o,.int .i64 i]] w fun e w'=>e=.returned (.tuple #[.agg #[.int .i64 0,.int .i64 0],.bool false])/\AA w w':=by
 have HX:=AC (fun w=>Pq f a o i w x hx);have HY:=AC (fun w=>SM t a o i w y hy);have d:y<=x:=AD;clear hx hy;go_enter func124,ntmps124;go_wp2_with fail;refine BW (fun wS=>AA w wS/\wS.heap[w.heap.size]?=some (.cells #[.int .i64 f,.int .i64 t] 69)/\wS.heap[w.heap.size+1]?=some (.cells #[.int .i64 a,.int .i64 o,.int .i64 i] 125)/\wS.heap[w.heap.size+1+1]?=some (.cells #[.int .i64 0,.int .i64 0] 69)) ⟨BQ,CG,CG,CG⟩ ?_;rintro w1 ⟨AJ,AH,Aq,DA⟩;have AG:=AJ;apply AP (9) [⟨3,9,.int .i64 x,false,fun v _=>v=.int .i64 x⟩,⟨7,13,.int .i64 y,false,fun v _=>v=.int .i64 y⟩] [] rfl AY AY AY Ar AY
 case hstab=>
  intro c hc;rcases Cv hc with rfl|rfl
  ·intro v x y BE hv;exact hv
  ·intro v x y BE hv;exact hv
 case hfix=>
  intro c hc;rcases Cv hc with rfl|rfl
  ·exact .inr fun u x h=>h
  ·exact .inr fun u x h=>h
 case hlex=>
  intro U hU;have q0:=AE (AB hU AH);have q1:=AE (AB hU Aq);refine Hj ?_
  repeat (go_big_quiet_step (first|fail))
  exact wpQuiet_nil rfl
 case hstep=>
  intro j hj o ho;have CQ:j=0\/j=1:=by simp at hj;omega
  rcases CQ with rfl|rfl
  ·cases ho;refine ⟨rfl,fun g x hx hp=>?_⟩;clear hp;refine Bp ?_;refine AO ?_ (At (HX x));simp[go_sem,execOp]
  ·cases ho;refine ⟨rfl,fun g x hx hp=>?_⟩;clear hp;refine Bp ?_;refine AO ?_ (At (HY x));simp[go_sem,execOp]
 case htail=>
  intro g u Aw Az;have AL:AA w1 (later u):=⟨u,rfl⟩;generalize later u=w2 at *;clear u;clear Aw Az;refine DH ?_;have AR:=AG.trans AL;have AU:=AB AL AH;have DM:=AB AL DA;obtain ⟨BS,Dj⟩:=DX AU;obtain ⟨OK,R7⟩:=DX DM;go_wp2_with fail;refine bodyPost_ret (v:=.tuple #[.agg #[.int .i64 0,.int .i64 0],.bool false]) (by simp[results,results124,go_sem,BS,OK]) rfl ⟨rfl,?_⟩;exact BQ
def Bf(a o i:Int)(l:Qs):Qs:=l.filterMap (IK a o i)
theorem OJ(h:j<l.length):Bf a o i (l.take (j+1))=Bf a o i (l.take j)++(IK a o i l[j]).toList:=by
 unfold Bf;rw[List.take_succ_eq_append_getElem h,List.filterMap_append];cases hs:IK a o i l[j] <;> simp[hs]
theorem NR(a o i:Int)(l:Qs):(Bf a o i l).length<=l.length:=List.length_filterMap_le _ _
theorem KV(a o i:Int)(l:Qs)(j:Nat):(Bf a o i (l.take j)).length<=j:=le_trans (NR a o i _) (by rw[List.length_take];omega)
theorem Qq{x y:Int}(h:IK a o i (f,t)=some (x,y)):CJ f a o i=x/\DB t a o i=y/\x<y:=by
 unfold IK at h;split at h
 ·cases h;exact ⟨rfl,rfl,by assumption⟩
 ·cases h
theorem Qd(h:IK a o i (f,t)=none):¬CJ f a o i<DB t a o i:=by
 unfold IK at h;split at h
 ·cases h
 ·assumption
def Qh(W:World)(l:Qs)(e:Ending)(w':World):Prop:=∃v,e=.returned v/\AA W w'/\OQ 69 w' W.heap.size v l
theorem Bk:Mz 69 36:=⟨underlying36,AY,AY,fun w=>by simp[go_sem]⟩
theorem kl(v:Value)(l:Qs)(a o i:Int)(M:Qs)(w:World)(hM:Bf a o i l=M)(hv:QR w v l)(hl:l.length<=100000):Calls prog 82 #[v,.agg #[.int .i64 a,.int .i64 o,.int .i64 i]] w (Qh w M):=by
 obtain ⟨A,cap,rfl,h2,h3⟩:=hv;have Kk:Hid (∀(j:Nat) (h:j<l.length),∃b off,A=some ⟨b,off,none⟩/\b<w.heap.size/\w.cell? ⟨b,off+j*2,none⟩=some (.int .i64 l[j].1)/\w.cell? ⟨b,off+j*2+1,none⟩=some (.int .i64 l[j].2)):=AC (fun j hj=>by
  obtain ⟨b,off,e,hb,hc⟩:=h3 AD;exact ⟨b,off,e,hb,hc j hj⟩)
 have HT:Hid (∀(j:Nat) (h:j<l.length),Bf a o i (l.take (j+1))=Bf a o i (l.take j)++(IK a o i l[j]).toList):=AC (fun j h=>OJ h);have uw:Hid (∀j,(Bf a o i (l.take j)).length<=j):=AC (KV a o i l);have RC:Hid (Bf a o i (l.take l.length)=M):=AC (by rw[List.take_length];exact hM);have HL:Hid (l.length=l.length):=AC rfl;obtain ⟨n,hn⟩:=BZ (l.length);have HN:=AC hn;rw[hn]at RC h2 hl ⊢;have LY:=AC ((AA.refl w).alloc (.cells #[.int .i64 a,.int .i64 o,.int .i64 i] 125));clear h3 hM HL hn;go_enter func82,ntmps82;go_wp2_with fail;go_loopg [5,12] n (fun kk ov iv wr=>∃(j:Nat),kk=n-j/\j<=n/\iv=.int .i64 (j:Int)/\AA (w.alloc (.cells #[.int .i64 a,.int .i64 o,.int .i64 i] 125)) wr/\OQ 69 wr (w.heap.size+1) ov (Bf a o i (l.take j)))
 case atStart=>exact ⟨0,AD,AD,rfl,AA.refl _,OQ.nil _ _ _⟩
 case round=>
  obtain ⟨j,hk,hj,rfl,AW,ho⟩:=hrel;have HO:=AC ho;have HA:=AC AW;obtain ⟨A4,Kq,rfl,-⟩:=ho.form;by_cases BN:j<n
  ·have lj:j<l.length:=by rw[HN.out];exact BN
   obtain ⟨b,off,rfl,hb,k0,k1⟩:=Kk j lj;have Iz:b<(w.alloc (.cells #[.int .i64 a,.int .i64 o,.int .i64 i] 125)).heap.size:=by rw[size_alloc];omega
   have c0:wr.cell? ⟨b,off+j*2,none⟩=some (.int .i64 l[j].1):=((LY.out.trans AW).below.cell hb).trans k0;have c1:wr.cell? ⟨b,off+j*2+1,none⟩=some (.int .i64 l[j].2):=((LY.out.trans AW).below.cell hb).trans k1;obtain ⟨d0,d1,d2⟩:=EU AW;have lw:w.heap.size<wr.heap.size:=by have:=AW.below.size;rw[size_alloc]at this;omega
   have hT:=HT j lj;clear k0 k1;generalize l[j]=x at *;obtain ⟨f,t⟩:=x;simp only at c0 c1 hT
   have HB:=AC ((AA.refl wr).alloc (.cells #[.int .i64 f,.int .i64 t] 69));have HLj:=uw j;rcases hs:IK a o i (f,t) with _|⟨x,y⟩
   ·have HF:=AC (fun w=>h_ f t a o i _ _ w rfl rfl (Qd hs));rw[hs]at hT;have Kw:=AC (hT.trans (List.append_nil _));clear hs hT ho AW;generalize (Bf a o i (l.take j)).length=m at *;go_wp2_with (go_at_call 124;refine (HF _).mono ?_;rintro e w1 ⟨rfl,b1⟩;have El:=AC ((HB.out.trans b1).alloc (.cells #[.int .i64 0,.int .i64 0] 69));clear b1)
    go_roundg (n-(j+1))
    case measure=>omega
    case rel=>exact ⟨j+1,rfl,BN,by go_num,HA.out.trans El.out,by rw[Kw.out];exact OQ.later El HO.out⟩
   ·obtain ⟨e1,e2,e3⟩:=Qq hs;have HF:=AC (fun w=>dk f t a o i x y w e1 e2 e3);rw[hs]at hT;have Kw:=AC hT;clear hs hT ho AW e1 e2 e3;generalize hm:(Bf a o i (l.take j)).length=m at *;have HM:=AC hm;clear hm;have lw1:w.heap.size+1<=wr.heap.size:=lw;go_wp2_with (first|(go_at_call 124;refine (HF _).mono ?_;rintro e w1 ⟨rfl,b1⟩;have Iz:=(HB.out.trans b1).alloc (.cells #[.int .i64 x,.int .i64 y] 69);obtain ⟨u,w3,q1,q2,q3⟩:=OR Bk (x,y) (OQ.later Iz HO.out) (le_trans lw1 Iz.below.size) (by rw[HM.out];omega);rw[size_alloc]at q1;have K1:=AC q1;have K2:=AC (And.intro (q3 (w.alloc (.cells #[.int .i64 a,.int .i64 o,.int .i64 i] 125)) (by rw[size_alloc];omega) (HA.out.trans Iz)) q2);clear b1 Iz q1 q2 q3)|(at_builtin;refine Lib.wpList_append_run _ rfl _ _ _ _ rfl _ _ rfl rfl _ _ K1.out ?_))
    go_roundg (n-(j+1))
    case measure=>omega
    case rel=>exact ⟨j+1,rfl,BN,by go_num,K2.out.1,by rw[Kw.out];exact K2.out.2⟩
  ·obtain rfl:j=n:=AD
   clear AW ho;go_wp2_with fail;go_ret;exact ⟨_,rfl,LY.out.trans HA.out,OQ.wide (B:=w.heap.size+1) AD (by rw[<-RC.out];exact HO.out)⟩
theorem kC(v:Value)(l:Qs)(a o i:Int)(M:Qs)(w:World)(hM:Bf a o i l=M)(hv:QR w v l)(hl:l.length<=100000):Calls prog 101 #[v,.agg #[.int .i64 a,.int .i64 o,.int .i64 i]] w (Qh w M):=by
 obtain ⟨A,cap,rfl,h2,h3⟩:=hv;have Kk:Hid (∀(j:Nat) (h:j<l.length),∃b off,A=some ⟨b,off,none⟩/\b<w.heap.size/\w.cell? ⟨b,off+j*2,none⟩=some (.int .i64 l[j].1)/\w.cell? ⟨b,off+j*2+1,none⟩=some (.int .i64 l[j].2)):=AC (fun j hj=>by
  obtain ⟨b,off,e,hb,hc⟩:=h3 AD;exact ⟨b,off,e,hb,hc j hj⟩)
 have HT:Hid (∀(j:Nat) (h:j<l.length),Bf a o i (l.take (j+1))=Bf a o i (l.take j)++(IK a o i l[j]).toList):=AC (fun j h=>OJ h);have uw:Hid (∀j,(Bf a o i (l.take j)).length<=j):=AC (KV a o i l);have RC:Hid (Bf a o i (l.take l.length)=M):=AC (by rw[List.take_length];exact hM);obtain ⟨n,hn⟩:=BZ (l.length);have HN:=AC hn;rw[hn]at RC h2 hl ⊢;have LY:=AC ((AA.refl w).alloc (.cells #[.int .i64 a,.int .i64 o,.int .i64 i] 125));have HE0:Hid (OQ 69 ((w.alloc (.cells #[.int .i64 a,.int .i64 o,.int .i64 i] 125)).alloc (.cells #[] 69)) (w.heap.size+1) (.slice (some ⟨w.heap.size+1,0,none⟩) 0 0) []/\AA (w.alloc (.cells #[.int .i64 a,.int .i64 o,.int .i64 i] 125)) ((w.alloc (.cells #[.int .i64 a,.int .i64 o,.int .i64 i] 125)).alloc (.cells #[] 69))):=
  AC ⟨OQ.empty (le_refl _) (Ae Ar),(AA.refl _).alloc _⟩
 clear h3 hn;go_enter func101,ntmps101;go_wp2_with fail;go_loopg [5,6] n (fun kk ov iv wr=>∃(j:Nat),kk=n-j/\j<=n/\iv=.int .i64 (j:Int)/\AA (w.alloc (.cells #[.int .i64 a,.int .i64 o,.int .i64 i] 125)) wr/\OQ 69 wr (w.heap.size+1) ov (Bf a o i (l.take j)))
 case atStart=>exact ⟨0,AD,AD,rfl,HE0.out.2,HE0.out.1⟩
 case round=>
  obtain ⟨j,hk,hj,rfl,AW,ho⟩:=hrel;have HO:=AC ho;have HA:=AC AW;obtain ⟨A4,Kq,rfl,-⟩:=ho.form;by_cases BN:j<n
  ·have lj:j<l.length:=by rw[HN.out];exact BN
   have i0:(j:Int)<(n:Int):=AD;obtain ⟨b,off,rfl,hb,k0,k1⟩:=Kk j lj;have c0:wr.cell? ⟨b,off+j*2,none⟩=some (.int .i64 l[j].1):=((LY.out.trans AW).below.cell hb).trans k0;have c1:wr.cell? ⟨b,off+j*2+1,none⟩=some (.int .i64 l[j].2):=((LY.out.trans AW).below.cell hb).trans k1;obtain ⟨d0,d1,d2⟩:=EU AW;have lw:w.heap.size+1<=wr.heap.size:=by have:=AW.below.size;rw[size_alloc]at this;omega
   have hT:=HT j lj;clear k0 k1;generalize l[j]=x at *;obtain ⟨f,t⟩:=x;simp only at c0 c1 hT
   have HLj:=uw j;obtain ⟨x,hx⟩:=BZ (CJ f a o i);obtain ⟨y,hy⟩:=BZ (DB t a o i);have HX:=AC (fun w=>Zh f a o i w x hx);have HY:=AC (fun w=>dW t a o i w y hy);rcases hs:IK a o i (f,t) with _|⟨x',y'⟩
   ·have e3:=Qd hs;rw[hx,hy]at e3;rw[hs]at hT;have Kw:=AC (hT.trans (List.append_nil _));have d:decide (x<y)=false:=decide_eq_false e3;clear hs hT ho hx hy;generalize (Bf a o i (l.take j)).length=m at *;go_wp2_with fail;apply AP (16) [⟨6,21,.int .i64 x,false,fun v _=>v=.int .i64 x⟩,⟨13,28,.int .i64 y,false,fun v _=>v=.int .i64 y⟩,⟨15,7,undef,true,GZ (.cells #[.int .i64 0,.int .i64 0] 69)⟩] [⟨15,7,GZ (.cells #[.int .i64 0,.int .i64 0] 69)⟩] rfl AY AY AY Ar AY
    case hstab=>
     intro c hc;rcases Cv hc with rfl|rfl|rfl
     ·intro v x y BE hv;exact hv
     ·intro v x y BE hv;exact hv
     ·intro v x y BE hv;exact EI BE hv
    case hfix=>
     intro c hc;rcases Cv hc with rfl|rfl|rfl
     ·exact .inr fun u x h=>h
     ·exact .inr fun u x h=>h
     ·exact .inl rfl
    case hlex=>
     intro U hU;have UY:=Ak hU c0;have WC:=Ak hU c1;have wu:=Ak hU d0;have sn:=Ak hU d1;have J14:=Ak hU d2;refine Hj ?_
     repeat (go_big_quiet_step (first|fail))
     exact wpQuiet_nil rfl
    case hstep=>
     intro j hj o ho;have CQ:j=0\/j=1\/j=2:=by simp at hj;omega
     rcases CQ with rfl|rfl|rfl
     ·cases ho;refine ⟨rfl,fun g x hx hp=>?_⟩;clear hp;refine Bp ?_;refine AO ?_ (At (HX x));simp[go_sem,execOp]
     ·cases ho;refine ⟨rfl,fun g x hx hp=>?_⟩;clear hp;refine Bp ?_;refine AO ?_ (At (HY x));simp[go_sem,execOp]
     ·cases ho;refine ⟨rfl,fun g x hx hp=>?_⟩;exact Ii (fun r x=>by simp[go_sem,execOp])
    case htail=>
     intro g u Aw Az;have AL:AA wr (later u):=⟨u,rfl⟩;generalize later u=w2 at *;clear u;obtain ⟨⟨b7,e7,AU⟩,Kl⟩:=Aw _ (mem_of_getElem? (i:=0) rfl);dsimp only at e7 Kl;have Kl:=Kl b7 (by rw[e7];rfl);clear Aw Az;refine DH ?_;rw[e7];clear e7;have AR:=AW.trans AL;obtain ⟨BS,Dj⟩:=DX AU;have El:=AC ((AL.setCell (p:=⟨b7,0,none⟩) Kl.1 (.int .i64 x)).setCell (p:=⟨b7,0+1,none⟩) Kl.1 (.int .i64 y));clear AW AR AL;go_wp2_with fail;go_roundg (n-(j+1))
     case measure=>omega
     case rel=>exact ⟨j+1,rfl,BN,by go_num,HA.out.trans El.out,by rw[Kw.out];exact OQ.later El HO.out⟩
   ·obtain ⟨e1,e2,e3⟩:=Qq hs;obtain rfl:x=x':=hx.symm.trans e1
    obtain rfl:y=y':=hy.symm.trans e2
    rw[hs]at hT;have Kw:=AC hT;clear hs hT ho hx hy e1 e2;generalize hm:(Bf a o i (l.take j)).length=m at *;have HM:=AC hm;clear hm;go_wp2_with fail;apply AP (16) [⟨6,21,.int .i64 x,false,fun v _=>v=.int .i64 x⟩,⟨13,28,.int .i64 y,false,fun v _=>v=.int .i64 y⟩,⟨15,7,undef,true,GZ (.cells #[.int .i64 0,.int .i64 0] 69)⟩] [⟨15,7,GZ (.cells #[.int .i64 0,.int .i64 0] 69)⟩] rfl AY AY AY Ar AY
    case hstab=>
     intro c hc;rcases Cv hc with rfl|rfl|rfl
     ·intro v x y BE hv;exact hv
     ·intro v x y BE hv;exact hv
     ·intro v x y BE hv;exact EI BE hv
    case hfix=>
     intro c hc;rcases Cv hc with rfl|rfl|rfl
     ·exact .inr fun u x h=>h
     ·exact .inr fun u x h=>h
     ·exact .inl rfl
    case hlex=>
     intro U hU;have UY:=Ak hU c0;have WC:=Ak hU c1;have wu:=Ak hU d0;have sn:=Ak hU d1;have J14:=Ak hU d2;refine Hj ?_
     repeat (go_big_quiet_step (first|fail))
     exact wpQuiet_nil rfl
    case hstep=>
     intro j hj o ho;have CQ:j=0\/j=1\/j=2:=by simp at hj;omega
     rcases CQ with rfl|rfl|rfl
     ·cases ho;refine ⟨rfl,fun g x hx hp=>?_⟩;clear hp;refine Bp ?_;refine AO ?_ (At (HX x));simp[go_sem,execOp]
     ·cases ho;refine ⟨rfl,fun g x hx hp=>?_⟩;clear hp;refine Bp ?_;refine AO ?_ (At (HY x));simp[go_sem,execOp]
     ·cases ho;refine ⟨rfl,fun g x hx hp=>?_⟩;exact Ii (fun r x=>by simp[go_sem,execOp])
    case htail=>
     intro g u Aw Az;have AL:AA wr (later u):=⟨u,rfl⟩;generalize later u=w2 at *;clear u;obtain ⟨⟨b7,e7,AU⟩,Kl⟩:=Aw _ (mem_of_getElem? (i:=0) rfl);dsimp only at e7 Kl;have Kl:=Kl b7 (by rw[e7];rfl);clear Aw Az;refine DH ?_;rw[e7];clear e7;have AR:=AW.trans AL;obtain ⟨BS,Dj⟩:=DX AU;have Iz:=(AL.setCell (p:=⟨b7,0,none⟩) Kl.1 (.int .i64 x)).setCell (p:=⟨b7,0+1,none⟩) Kl.1 (.int .i64 y);obtain ⟨u,w3,q1,q2,q3⟩:=OR Bk (x,y) (OQ.later Iz HO.out) (le_trans lw Iz.below.size) (by rw[HM.out];omega);simp only[World.size_setCell,Nat.zero_add]at q1;have K1:=AC q1;have K2:=AC (And.intro (q3 (w.alloc (.cells #[.int .i64 a,.int .i64 o,.int .i64 i] 125)) (by rw[size_alloc];omega) (HA.out.trans Iz)) q2);clear Iz q1 q2 q3 AW AR AL;go_wp2_with (at_builtin;refine Lib.wpList_append_run _ rfl _ _ _ _ rfl _ _ rfl rfl _ _ K1.out ?_)
     go_roundg (n-(j+1))
     case measure=>omega
     case rel=>exact ⟨j+1,rfl,BN,by go_num,K2.out.1,by rw[Kw.out];exact K2.out.2⟩
  ·obtain rfl:j=n:=AD
   clear AW ho;go_wp2_with fail;go_ret;exact ⟨_,rfl,LY.out.trans HA.out,OQ.wide (B:=w.heap.size+1) AD (by rw[<-RC.out];exact HO.out)⟩
def Qr(p:Int × Int->Bool)(l:Qs):Int:=if l.any p=true then ((l.findIdx p:Nat):Int) else -1
theorem Zz{p:Int × Int->Bool}(h:j<l.length)(hf:(l.take j).any p=false)(hp:p l[j]=true):Qr p l=(j:Int):=by
 unfold Qr;rw[if_pos (List.any_eq_true.2 ⟨_,List.getElem_mem h,hp⟩)]
 congr 1
 rw[List.findIdx_eq h];refine ⟨hp,fun i hi=>?_⟩;have:=List.any_eq_false.1 hf l[i] (by rw[List.mem_take_iff_getElem];exact ⟨i,AD,rfl⟩)
 simpa using this
theorem Rl{p:Int × Int->Bool}(h:l.any p=false):Qr p l= -1:=by unfold Qr;rw[if_neg (by rw[h];decide)]
theorem Yh(p:Int × Int->Bool)(l:Qs):(l.any p=false/\Qr p l= -1)\/(l.any p=true/\∃j:Nat,Qr p l=(j:Int)/\∃h:j<l.length,(l.take j).any p=false/\p l[j]=true):=by
 cases h:l.any p
 ·exact .inl ⟨rfl,Rl h⟩
 ·refine .inr ⟨rfl,l.findIdx p,by unfold Qr;rw[if_pos h],?_⟩;have hl:l.findIdx p<l.length:=List.findIdx_lt_length_of_exists (by simpa using List.any_eq_true.1 h);refine ⟨hl,?_,List.findIdx_getElem (w:=hl)⟩;rw[List.any_eq_false];intro x hx;obtain ⟨i,hi,rfl⟩:=List.mem_take_iff_getElem.1 hx;have fD:i<l.findIdx p:=Nat.lt_of_lt_of_le hi (Nat.min_le_left _ _);simpa using List.not_of_lt_findIdx fD
def gm(P:World->Prop)(gc:Nat)(cb:Array Value)(p:Int × Int->Bool):Prop:=∀(b1 b2:Int) (w':World),P w'->
 Calls prog gc (#[.agg #[.int .i64 b1,.int .i64 b2]]++cb) w' fun e Bg=>e=.returned (.bool (p (b1,b2)))/\AA w' Bg
theorem Yc(v:Value)(gc:Nat)(cb:Array Value)(p:Int × Int->Bool)(l:Qs)(r:Int)(w:World)(P:World->Prop)(hk:Qr p l=r)(hr:QR w v l)(hn:l.length<=100000)(hP:P w)(rY:∀x y,P x->AA x y->P y)
 (Q8:∀args w,(callFunc gc args).run prog w=.ok (.enter gc args) w) (WD:gm P gc cb p):
 Calls prog 130 #[v,.func (.func gc) #[] cb] w fun e w'=>e=.returned (.int .i64 r)/\AA w w':=by
 obtain ⟨A,cap,rfl,h2,h3⟩:=hr;have Kk:Hid (∀(j:Nat) (h:j<l.length),∃b off,A=some ⟨b,off,none⟩/\b<w.heap.size/\w.cell? ⟨b,off+j*2,none⟩=some (.int .i64 l[j].1)/\w.cell? ⟨b,off+j*2+1,none⟩=some (.int .i64 l[j].2)):=AC (fun j hj=>by
  obtain ⟨b,off,e,hb,hc⟩:=h3 AD;exact ⟨b,off,e,hb,hc j hj⟩)
 have HD:=AC WD;have HP:=AC (And.intro hP rY);have HK:=AC hk;obtain ⟨n,Lf⟩:=BZ (l.length);have HN:=AC Lf;rw[Lf]at h2 hn ⊢;clear h3 hk hP rY WD Lf;go_enter func130,ntmps130;go_wp2_with fail;go_loopg [8] n (fun k i wr=>∃j:Nat,k=n-j/\j<=n/\i=.int .i64 j/\AA w wr/\(l.take j).any p=false)
 case atStart=>exact ⟨0,AD,AD,rfl,AA.refl _,Ar⟩
 case round=>
  obtain ⟨j,hk,hj,rfl,AW,hf⟩:=hrel;have HF:=AC hf;clear hf;by_cases BN:j<n
  ·have lj:j<l.length:=by rw[HN.out];exact BN
   obtain ⟨b,off,rfl,hb,k0,k1⟩:=Kk j lj;have c0:wr.cell? ⟨b,off+j*2,none⟩=some (.int .i64 l[j].1):=(AW.below.cell hb).trans k0;have c1:wr.cell? ⟨b,off+j*2+1,none⟩=some (.int .i64 l[j].2):=(AW.below.cell hb).trans k1;have HT:Hid ((l.take (j+1)).any p=((l.take j).any p || p l[j])):=AC (by rw[List.take_succ_eq_append_getElem lj,List.any_append];simp);have HH:Hid (p l[j]=true->Qr p l=(j:Int)):=AC (fun h=>Zz lj HF h);clear k0 k1;generalize l[j]=x at *;obtain ⟨f,t⟩:=x;simp only at c0 c1
   have yc:=AC (HD f t wr (HP.out.2 _ _ HP.out.1 AW))
   cases hp:p (f,t) with
   |true=>
    rw[hp]at yc;have HE:=AC (HH hp);clear hp HT HH;go_wp2_with fail;refine yc.out.mono ?_;rintro e w1 ⟨rfl,AJ⟩;go_wp2_with fail;go_ret;exact ⟨by rw[<-HK.out,HE.out];rfl,AW.trans AJ⟩
   |false=>
    rw[hp]at yc;have HE:Hid ((l.take (j+1)).any p=false):=AC (by rw[HT.out,HF.out,hp];rfl);clear hp HT HH;go_wp2_with fail;refine yc.out.mono ?_;rintro e w1 ⟨rfl,AJ⟩;go_wp2_with fail;go_roundg (n-(j+1))
    case measure=>omega
    case rel=>exact ⟨j+1,rfl,BN,by go_num,AW.trans AJ,HE.out⟩
  ·obtain rfl:j=n:=AD
   have HE:Hid (Qr p l= -1):=AC (Rl (by
    have:=HF.out
    rwa [List.take_of_length_le (Nat.le_of_eq HN.out)]at this))
   go_wp2_with fail;go_ret;exact ⟨by rw[<-HK.out,HE.out];rfl,AW⟩
theorem QG(v:Value)(l:Qs)(w:World)(hv:QR w v l)(hl:l.length<=190000):Calls prog 72 #[v] w (Qh w l):=by
 obtain ⟨u,w2,q1,q2,q3⟩:=aL Bk hv hl;have K1:=AC q1;have K2:=AC (And.intro q2 q3);obtain ⟨A,cap,rfl,h2,h3⟩:=hv;have hq:=fun (w:World) (n:Nat)=>Lib.run_eql_slice_nil (P:=prog) w 36 69 A n cap 0 0 underlying36
 cases A with
 |none=>
  have h0:l=[]:=by
   cases l with
   |nil=>rfl
   |cons x t=>obtain ⟨b,off,e,_⟩:=h3 Ar;cases e
  subst h0;clear q1 q2 q3 h2 h3 K1 K2;go_enter func72,ntmps72;go_wp2_with fail;go_ret;exact ⟨_,rfl,AA.refl _,OQ.nil _ _ _⟩
 |some ad=>
  clear q1 q2 q3 h2 h3;generalize l.length=n at *;go_enter func72,ntmps72;go_wp2_with (at_builtin;refine Lib.wpList_append_run _ rfl _ _ _ _ rfl _ _ rfl rfl _ _ K1.out ?_)
  go_ret;exact ⟨_,rfl,K2.out⟩
theorem jg(w:World)(n:Nat)(h0:0<n)(hn:n<=300000):
 ∃g cap w2,(Builtin.append_ #[36,3] 36 #[.slice none 0 0,.int .i64 (n:Int)]).run prog w=.ok (.slice (some ⟨g,0,none⟩) n cap) w2/\AA w w2/\OQ 69 w2 w.heap.size (.slice (some ⟨g,0,none⟩) 0 cap) []:=by
 obtain ⟨i0,Gv,JM,Ie,JN⟩:=info_parts Bk.info;have JY:=grownCap_ge w n 0 69;have Ls:=grownCap_le_maxLen w n 0 69 (by unfold maxLen;omega);refine ⟨_,_,_,Lib.run_append_nil_zeros (P:=prog) w 36 3 36 69 i0 (.agg #[.int .i64 0,.int .i64 0]) .i64 .i64 underlying36 AY Gv JM n h0 (by rw[Ie];decide) AD (by rw[JN];omega),?_,rfl,.inr ⟨w.heap.size,_,_,rfl,le_refl _,Ae rfl,zero_le _,Ls,?_,rfl⟩⟩
 ·exact (((AA.refl w).drewN 1).alloc _)
 ·rw[Array.size_append,size_zeroCells,size_zeroCells];show n*2+(grownCap w n 0 69-n)*2=_
  omega
theorem Yr(w:World):Calls prog 177 #[.slice none 0 0,.int .i64 0] w (Qh w []):=by
 go_enter func177,ntmps177;go_wp2_with fail;go_ret;exact ⟨_,rfl,AA.refl _,OQ.nil _ _ _⟩
theorem YV(n:Nat)(w:World)(h0:0<n)(hn:n<=300000):Calls prog 177 #[.slice none 0 0,.int .i64 n] w (Qh w []):=by
 obtain ⟨g,cap,w2,k1,k2,k3⟩:=jg w n h0 hn;have K1:=AC k1;have HB:=AC (And.intro k2 k3);clear k1 k2 k3;go_enter func177,ntmps177;go_wp2_with (at_builtin;refine Lib.wpList_append_run _ rfl _ _ _ _ rfl _ _ rfl rfl _ _ K1.out ?_)
 go_ret;exact ⟨_,rfl,HB.out⟩
theorem Ru(n:Int)(w:World)(h0:0<=n)(hn:n<=300000):Calls prog 177 #[.slice none 0 0,.int .i64 n] w (Qh w []):=by
 obtain ⟨N,rfl⟩:=Int.eq_ofNat_of_zero_le h0;rcases Nat.eq_zero_or_pos N with rfl|hp
 ·exact Yr w
 ·exact YV N w hp AD
theorem XW(g:Nat)(v1 v2 v3:Value)(a b c:Qs)(w:World)(hg:g<w.heap.size)(c1:w.cell? ⟨g,0,none⟩=some v1)(c2:w.cell? ⟨g,1,none⟩=some v2)(c3:w.cell? ⟨g,2,none⟩=some v3)(h1:QR w v1 a)(h2:QR w v2 b)(h3:QR w v3 c)(hs:a.length+b.length+c.length<=90000):
 Calls prog 129 #[.slice (some ⟨g,0,none⟩) 3 3] w (Qh w (a++b++c)):=by
 have H1:=AC h1;have H2:=AC h2;have H3:=AC h3;obtain ⟨A1,q1,rfl,_,_⟩:=h1;obtain ⟨A2,q2,rfl,_,_⟩:=h2;obtain ⟨A3,q3,rfl,_,_⟩:=h3;have Q6:=AC c1;have Hw:=AC c2;have ul:=AC c3;have HG:=AC (fun n w=>Ru n w);have s1:a.length<=90000:=AD;have s2:b.length<=90000:=AD;have s3:c.length<=90000:=AD;go_enter func129,ntmps129;go_wp2_with fail;refine wp_loop_rounds 4 ?_;rw[rounds_succ];go_wp2_with fail;rw[rounds_succ];go_wp2_with fail;rw[rounds_succ];go_wp2_with fail;rw[rounds_succ];go_wp2_with fail;refine (HG _ _ AD AD).mono ?_;rintro e w1 ⟨x1,rfl,b1,o1⟩;have El:=AC (And.intro b1 o1);clear b1 o1 c1 c2 c3;obtain ⟨A9,q9,rfl,_,_⟩:=OQ.rq El.out.2;go_wp2_with fail;refine wp_loop_rounds 4 ?_;rw[rounds_succ];have c1:w1.cell? ⟨g,0,none⟩=some (.slice A1 a.length q1):=(El.out.1.below.cell hg).trans Q6.out;obtain ⟨x2,w2,k1,k2,k3⟩:=OZ Bk El.out.2 (H1.out.later El.out.1) El.out.1.below.size (by simp only[length_append,length_nil];omega);have K1:=AC k1;have FA:=AC (And.intro (OQ.grown El.out.2 (le_refl _) El.out.1 k3) k2);clear k1 k2 k3;go_wp2_with (at_builtin;refine Lib.wpList_append_run _ rfl _ _ _ _ rfl _ _ rfl rfl _ _ K1.out ?_)
 rw[rounds_succ];have c2:w2.cell? ⟨g,1,none⟩=some (.slice A2 b.length q2):=(FA.out.1.below.cell hg).trans Hw.out;obtain ⟨x3,w3,k1,k2,k3⟩:=OZ Bk FA.out.2 (H2.out.later FA.out.1) FA.out.1.below.size (by simp only[length_append,length_nil];omega);have K2:=AC k1;have Fw:=AC (And.intro (OQ.grown FA.out.2 (le_refl _) FA.out.1 k3) k2);clear k1 k2 k3;go_wp2_with (at_builtin;refine Lib.wpList_append_run _ rfl _ _ _ _ rfl _ _ rfl rfl _ _ K2.out ?_)
 rw[rounds_succ];have c3:w3.cell? ⟨g,2,none⟩=some (.slice A3 c.length q3):=(Fw.out.1.below.cell hg).trans ul.out;obtain ⟨x4,w4,k1,k2,k3⟩:=OZ Bk Fw.out.2 (H3.out.later Fw.out.1) Fw.out.1.below.size (by simp only[length_append,length_nil];omega);have K3:=AC k1;have Y7:=AC (And.intro (OQ.grown Fw.out.2 (le_refl _) Fw.out.1 k3) k2);clear k1 k2 k3;go_wp2_with (at_builtin;refine Lib.wpList_append_run _ rfl _ _ _ _ rfl _ _ rfl rfl _ _ K3.out ?_)
 rw[rounds_succ];go_wp2_with fail;go_ret;exact ⟨_,rfl,Y7.out⟩
theorem iq(g:Nat)(v1 v2:Value)(a b:Qs)(w:World)(hg:g<w.heap.size)(c1:w.cell? ⟨g,0,none⟩=some v1)(c2:w.cell? ⟨g,1,none⟩=some v2)(h1:QR w v1 a)(h2:QR w v2 b)(hs:a.length+b.length<=90000):
 Calls prog 129 #[.slice (some ⟨g,0,none⟩) 2 2] w (Qh w (a++b)):=by
 have H1:=AC h1;have H2:=AC h2;obtain ⟨A1,q1,rfl,_,_⟩:=h1;obtain ⟨A2,q2,rfl,_,_⟩:=h2;have Q6:=AC c1;have Hw:=AC c2;have HG:=AC (fun n w=>Ru n w);have s1:a.length<=90000:=AD;have s2:b.length<=90000:=AD;go_enter func129,ntmps129;go_wp2_with fail;refine wp_loop_rounds 3 ?_;rw[rounds_succ];go_wp2_with fail;rw[rounds_succ];go_wp2_with fail;rw[rounds_succ];go_wp2_with fail;refine (HG _ _ AD AD).mono ?_;rintro e w1 ⟨x1,rfl,b1,o1⟩;have El:=AC (And.intro b1 o1);clear b1 o1 c1 c2;obtain ⟨A9,q9,rfl,_,_⟩:=OQ.rq El.out.2;go_wp2_with fail;refine wp_loop_rounds 3 ?_;rw[rounds_succ];have c1:w1.cell? ⟨g,0,none⟩=some (.slice A1 a.length q1):=(El.out.1.below.cell hg).trans Q6.out;obtain ⟨x2,w2,k1,k2,k3⟩:=OZ Bk El.out.2 (H1.out.later El.out.1) El.out.1.below.size (by simp only[length_append,length_nil];omega);have K1:=AC k1;have FA:=AC (And.intro (OQ.grown El.out.2 (le_refl _) El.out.1 k3) k2);clear k1 k2 k3;go_wp2_with (at_builtin;refine Lib.wpList_append_run _ rfl _ _ _ _ rfl _ _ rfl rfl _ _ K1.out ?_)
 rw[rounds_succ];have c2:w2.cell? ⟨g,1,none⟩=some (.slice A2 b.length q2):=(FA.out.1.below.cell hg).trans Hw.out;obtain ⟨x3,w3,k1,k2,k3⟩:=OZ Bk FA.out.2 (H2.out.later FA.out.1) FA.out.1.below.size (by simp only[length_append,length_nil];omega);have K2:=AC k1;have Fw:=AC (And.intro (OQ.grown FA.out.2 (le_refl _) FA.out.1 k3) k2);clear k1 k2 k3;go_wp2_with (at_builtin;refine Lib.wpList_append_run _ rfl _ _ _ _ rfl _ _ rfl rfl _ _ K2.out ?_)
 rw[rounds_succ];go_wp2_with fail;go_ret;exact ⟨_,rfl,Fw.out⟩
theorem F8(v:Value)(l:Qs)(n:Int)(c:Bool)(w:World)(hc:BJ n 0 l=c)(hv:QR w v l)(hl:l.length<=60000):Calls prog 66 #[v,.int .i64 n] w fun e w'=>e=.returned (.bool c)/\AA w w':=by
 obtain ⟨A,cap,rfl,h2,h3⟩:=hv;have Kk:Hid (∀(j:Nat) (h:j<l.length),∃b off,A=some ⟨b,off,none⟩/\b<w.heap.size/\w.cell? ⟨b,off+j*2,none⟩=some (.int .i64 l[j].1)/\w.cell? ⟨b,off+j*2+1,none⟩=some (.int .i64 l[j].2)):=AC (fun j hj=>by
  obtain ⟨b,off,e,hb,hc⟩:=h3 AD;exact ⟨b,off,e,hb,hc j hj⟩)
 have HK:=AC hc;obtain ⟨m,hm⟩:=BZ (l.length);have HN:=AC hm;rw[hm]at h2 hl ⊢;clear h3 hc hm;go_enter func66,ntmps66;go_wp2_with fail;go_loopg [5,10] m (fun k ev i wr=>∃j:Nat,k=m-j/\j<=m/\i=.int .i64 (j:Int)/\AA w wr/\∃e0:Int,ev=.int .i64 e0/\XQ 0 (l.take j)=e0/\BJ n 0 (l.take j)=true)
 case atStart=>exact ⟨0,AD,AD,rfl,AA.refl _,0,rfl,by rw[List.take_zero];rfl,by rw[List.take_zero];rfl⟩
 case round=>
  obtain ⟨j,hk,hj,rfl,AW,e0,rfl,he,hg⟩:=hrel;have HE:=AC (And.intro he hg);clear he hg;by_cases BN:j<m
  ·have lj:j<l.length:=by rw[HN.out];exact BN
   obtain ⟨b,off,rfl,hb,k0,k1⟩:=Kk j lj;have c0:wr.cell? ⟨b,off+j*2,none⟩=some (.int .i64 l[j].1):=(AW.below.cell hb).trans k0;have c1:wr.cell? ⟨b,off+j*2+1,none⟩=some (.int .i64 l[j].2):=(AW.below.cell hb).trans k1;have HT:Hid (BJ n 0 (l.take (j+1))=decide (e0<=l[j].1/\l[j].1<l[j].2/\l[j].2<=n)/\XQ 0 (l.take (j+1))=l[j].2):=AC ⟨by rw[PV lj,HE.out.2,HE.out.1,Bool.true_and],S3 lj⟩;have HF:Hid (BJ n 0 (l.take (j+1))=false->c=false):=AC (fun h=>HK.out.symm.trans (OM lj h));clear k0 k1;generalize l[j]=x at *;obtain ⟨f,t⟩:=x;simp only at c0 c1
   by_cases h1:f<e0
   ·have HB:=AC (HF (by rw[HT.out.1];exact decide_eq_false (fun h=>by have:=h.1;simp only at this;omega)));go_wp2_with fail;go_ret;exact ⟨by rw[HB.out];rfl,AW.alloc _⟩
   ·have d1:decide (f<e0)=false:=decide_eq_false h1;by_cases h2:t<=f
    ·have HB:=AC (HF (by rw[HT.out.1];exact decide_eq_false (fun h=>by have:=h.2.1;simp only at this;omega)));go_wp2_with fail;go_ret;exact ⟨by rw[HB.out];rfl,AW.alloc _⟩
    ·have d2:decide (t<=f)=false:=decide_eq_false h2;by_cases h3:n<t
     ·have HB:=AC (HF (by rw[HT.out.1];exact decide_eq_false (fun h=>by have:=h.2.2;simp only at this;omega)));go_wp2_with fail;go_ret;exact ⟨by rw[HB.out];rfl,AW.alloc _⟩
     ·have d3:decide (n<t)=false:=decide_eq_false h3;have HB:Hid (BJ n 0 (l.take (j+1))=true):=AC (by rw[HT.out.1];exact decide_eq_true ⟨by simp only;omega,by simp only;omega,by simp only;omega⟩);go_wp2_with fail;go_roundg (m-(j+1))
      case measure=>omega
      case rel=>exact ⟨j+1,rfl,BN,by go_num,AW.alloc _,t,rfl,HT.out.2,HB.out⟩
  ·obtain rfl:j=m:=AD
   have HB:Hid (true=c):=AC (by
    have:=HE.out.2
    rw[List.take_of_length_le (Nat.le_of_eq HN.out)]at this;exact this.symm.trans HK.out)
   have d0:(j:Int)<=65536:=AD;go_wp2_with fail;go_ret;exact ⟨Am HB.out,AW⟩
def QT(w:World)(v:Value)(l:Qs):Prop:=QR w v l/\∀b,vblk v=some b->∃cs,w.heap[b]?=some (.cells cs 69)
theorem QT.later(h:QT w v l)(a:AA w w'):QT w' v l:=⟨h.1.later a,fun b hb=>by
 obtain ⟨cs,hc⟩:=h.2 b hb;exact ⟨cs,AB a hc⟩⟩
theorem QT.void(w:World):QT w (.slice none 0 0) []:=⟨QR.void _ _ _,fun b hb=>by cases hb⟩
theorem QT.new{k:Nat}{c:Nat}(h:k=w.heap.size):QT (w.alloc (.cells #[] 69)) (.slice (some ⟨k,0,none⟩) 0 c) []:=⟨QR.void _ _ _,fun b hb=>by
 obtain rfl:k=b:=Option.some.inj hb
 exact ⟨_,Ae h⟩⟩
theorem OQ.qt{B:Nat}(h:OQ 69 w B v l):QT w v l:=⟨OQ.rq h,fun b hb=>by
 rcases h.2 with ⟨rfl,_⟩|⟨g,cap,cur,rfl,h2,h3,_⟩
 ·cases hb
 ·cases hb;exact ⟨_,h3⟩⟩
theorem Qh.qt{W:World}{e:Ending}(h:Qh W l e w'):∃v,e=.returned v/\AA W w'/\QT w' v l:=by
 obtain ⟨v,h1,h2,h3⟩:=h;exact ⟨v,h1,h2,h3.qt⟩
def WM(l:Qs)(s:Int × Int)(n:Int)(W:World)(e:Ending)(w':World):Prop:=∃u,e=.returned (.tuple #[u,.int .i64 (QA s l n)])/\AA W w'/\QT w' u (Ia s l n)
def GA(v1 v3:Value)(m:Qs)(u:Value)(w:World):Prop:=∃g v2,u=.slice (some ⟨g,0,none⟩) 3 3/\g<w.heap.size/\w.cell? ⟨g,0,none⟩=some v1/\w.cell? ⟨g,1,none⟩=some v2/\w.cell? ⟨g,2,none⟩=some v3/\QR w v2 m
theorem GA.later(a:AA w w')(h:GA v1 v3 m u w):GA v1 v3 m u w':=by
 obtain ⟨g,v2,e,h0,h1,h2,h3,h4⟩:=h;exact ⟨g,v2,e,Nat.lt_of_lt_of_le h0 a.below.size,Ak a h1,Ak a h2,Ak a h3,h4.later a⟩
theorem R6(h:QR x v2 m):GA v1 v3 m (.slice (some ⟨x.heap.size,0,none⟩) 3 3) (x.alloc (.cells #[v1,v2,v3] 36)):=by
 have hz:(x.alloc (.cells #[v1,v2,v3] 36)).heap[x.heap.size]?=some (.cells #[v1,v2,v3] 36):=Ae rfl;exact ⟨_,v2,rfl,As hz,(AE hz 0).trans rfl,(AE hz 1).trans rfl,(AE hz 2).trans rfl,h.later ((AA.refl x).alloc _)⟩
def Jm(v1 v2:Value)(u:Value)(w:World):Prop:=∃g,u=.slice (some ⟨g,0,none⟩) 2 2/\g<w.heap.size/\w.cell? ⟨g,0,none⟩=some v1/\w.cell? ⟨g,1,none⟩=some v2
theorem Jm.later(a:AA w w')(h:Jm v1 v2 u w):Jm v1 v2 u w':=by
 obtain ⟨g,e,h0,h1,h2⟩:=h;exact ⟨g,e,Nat.lt_of_lt_of_le h0 a.below.size,Ak a h1,Ak a h2⟩
theorem lB:Jm v1 v2 (.slice (some ⟨x.heap.size,0,none⟩) 2 2) (x.alloc (.cells #[v1,v2] 36)):=by
 have hz:(x.alloc (.cells #[v1,v2] 36)).heap[x.heap.size]?=some (.cells #[v1,v2] 36):=Ae rfl;exact ⟨_,rfl,As hz,(AE hz 0).trans rfl,(AE hz 1).trans rfl⟩
theorem iZ(v:Value)(l:Qs)(f t n:Int)(w:World)(hv:QR w v l)(hl:l.length<=60000)(hg:BJ n 0 l=false):
 Calls prog 85 #[v,.agg #[.int .i64 f,.int .i64 t],.int .i64 n] w (WM l (f,t) n w):=by
 obtain ⟨hc,hL⟩:=NC (s:=(f,t)) (l:=l) (n:=n) (by rw[hg];simp);have HE:=AC (And.intro hc hL);have HG:=AC (fun (w':World) (h:AA w w')=>F8 v l n false w' hg (hv.later h) hl);obtain ⟨A,cap,rfl,-⟩:=hv.form;clear hv hc hL hg hl;generalize l.length=m at *;go_enter func85,ntmps85;go_wp2_with fail;refine AQ (fun wS=>AA w wS/\wS.heap[w.heap.size]?=some (.cells #[.int .i64 f,.int .i64 t] 69)) ⟨BQ,CG⟩ ?_;rintro w1 ⟨AJ,AH⟩;have AG:=AJ;refine (HG _ AG).mono ?_;rintro e w2 ⟨rfl,AL⟩;have AR:=AG.trans AL;go_wp2_with fail;refine bodyPost_ret (v:=.tuple #[.slice none 0 0,.int .i64 1]) (by simp[results,results85,go_sem]) rfl ⟨_,by rw[HE.out.1],AR,by rw[HE.out.2];exact QT.void _⟩
theorem V6(v:Value)(l:Qs)(f t n:Int)(w:World)(hv:QR w v l)(hl:l.length<=60000)(hg:BJ n 0 l=true)(hf:Ed n (f,t)=false):
 Calls prog 85 #[v,.agg #[.int .i64 f,.int .i64 t],.int .i64 n] w (WM l (f,t) n w):=by
 obtain ⟨hc,hL⟩:=NC (s:=(f,t)) (l:=l) (n:=n) (by rw[hf];simp);have HE:=AC (And.intro hc hL);have HG:=AC (fun (w':World) (h:AA w w')=>F8 v l n true w' hg (hv.later h) hl);have HF:=AC (fun (w':World) u (h:QR w' u [(f,t)])=>F8 u [(f,t)] n false w' ((Ny n _).trans hf) h Ar);obtain ⟨A,cap,rfl,-⟩:=hv.form;clear hv hc hL hg hf hl;generalize l.length=m at *;go_enter func85,ntmps85;go_wp2_with fail;refine AQ (fun wS=>AA w wS/\wS.heap[w.heap.size]?=some (.cells #[.int .i64 f,.int .i64 t] 69)) ⟨BQ,CG⟩ ?_;rintro w1 ⟨AJ,AH⟩;have AG:=AJ;refine (HG _ AG).mono ?_;rintro e w2 ⟨rfl,AL⟩;have AR:=AG.trans AL;have AU:=AB AL AH;have BS:=AE AU;go_wp2_with fail;refine AQ (fun wS=>AA w2 wS/\wS.heap[w2.heap.size]?=some (.cells #[.int .i64 f,.int .i64 t] 69)) ⟨BQ,CG⟩ ?_;rintro w3 ⟨AX,BD⟩;have An:=AR.trans AX;(try clear BS);refine (HF _ _ (OQ.rq (OQ.one (B:=0) (zero_le _) BD))).mono ?_;rintro e w4 ⟨rfl,Ao⟩;have Bl:=An.trans Ao;go_wp2_with fail;refine bodyPost_ret (v:=.tuple #[.slice none 0 0,.int .i64 1]) (by simp[results,results85,go_sem]) rfl ⟨_,by rw[HE.out.1],Bl,by rw[HE.out.2];exact QT.void _⟩
theorem dl(v:Value)(l:Qs)(f t n:Int)(w:World)(hv:QR w v l)(hl:l.length<=60000)(hg:BJ n 0 l=true)(hf:Ed n (f,t)=true):
 Calls prog 85 #[v,.agg #[.int .i64 f,.int .i64 t],.int .i64 n] w (WM l (f,t) n w):=by
 have HG:=AC (fun (w':World) (h:AA w w')=>F8 v l n true w' hg (hv.later h) hl);have HF:=AC (fun (w':World) u (h:QR w' u [(f,t)])=>F8 u [(f,t)] n true w' ((Ny n _).trans hf) h Ar);have Ta:=AC (fun (h:C7 (f,t) l=true)=>Po ⟨hg,hf⟩ h);have Q5:=AC (fun (h:C7 (f,t) l=false)=>TQ ⟨hg,hf⟩ h);have fP:=AC (VN (s:=(f,t)) hg);have vh:=AC (Io (f,t) l);have Gb:=AC (LQ (f,t) l);have ZN:=JD (f,t) l;have HP:Hid (Pj (f,t) l=l.take (BR (f,t) l)++[(f,t)]++l.drop (BR (f,t) l)):=AC rfl;generalize BR (f,t) l=a at *;obtain ⟨A1,Cg,p1,k1⟩:=hv.Sk Bk a ZN;obtain ⟨u3,p3,k3⟩:=hv.jp Bk a ZN;have K1:=AC k1;have K3:=AC k3;have Yv:=AC (fun (x:World) (u:Value) (hx:AA w x) (h:GA (.slice A1 a Cg) u3 [(f,t)] u x)=>(show Calls prog 129 #[u] x (fun e w'=>∃y,e=.returned y/\AA x w'/\QT w' y (l.take a++[(f,t)]++l.drop a)) from by
  obtain ⟨g,v2,rfl,h0,h1,h2,h3,h4⟩:=h;exact (XW g _ v2 u3 _ _ _ x h0 h1 h2 h3 (p1.later hx) h4 (p3.later hx) (by rw[List.length_take,List.length_drop];simp;omega)).mono fun _ _ q=>q.qt))
 obtain ⟨A3,E7,rfl,-⟩:=p3.form;obtain ⟨A,cap,rfl,h2,h3⟩:=hv;have Kk:Hid (∀(j:Nat) (h:j<l.length),∃b off,A=some ⟨b,off,none⟩/\b<w.heap.size/\w.cell? ⟨b,off+j*2,none⟩=some (.int .i64 l[j].1)/\w.cell? ⟨b,off+j*2+1,none⟩=some (.int .i64 l[j].2)):=AC (fun j hj=>by
  obtain ⟨b,off,e,hb,hc⟩:=h3 AD;exact ⟨b,off,e,hb,hc j hj⟩)
 obtain ⟨m3,hm3⟩:=BZ ((l.drop a).length);rw[hm3]at K3 Yv;obtain ⟨m,hm⟩:=BZ (l.length);have HN:=AC hm;rw[hm]at h2 hl ZN K1 K3 HG ⊢;clear h3 hm hg hf p1 p3 k1 k3 hm3;go_enter func85,ntmps85;go_wp2_with fail;refine AQ (fun wS=>AA w wS/\wS.heap[w.heap.size]?=some (.cells #[.int .i64 f,.int .i64 t] 69)) ⟨BQ,CG⟩ ?_;rintro w1 ⟨AJ,AH⟩;have AG:=AJ;refine (HG _ AG).mono ?_;rintro e w2 ⟨rfl,AL⟩;have AR:=AG.trans AL;have AU:=AB AL AH;have BS:=AE AU;go_wp2_with fail;refine AQ (fun wS=>AA w2 wS/\wS.heap[w2.heap.size]?=some (.cells #[.int .i64 f,.int .i64 t] 69)) ⟨BQ,CG⟩ ?_;rintro w3 ⟨AX,BD⟩;have An:=AR.trans AX;have Ah:=AB AX AU;(try clear BS);refine (HF _ _ (OQ.rq (OQ.one (B:=0) (zero_le _) BD))).mono ?_;rintro e w4 ⟨rfl,Ao⟩;have Bl:=An.trans Ao;have BK:=AB Ao Ah;clear HG HF;go_wp2_with fail;go_loopg [8] (m+1) (fun k iv wr=>∃j:Nat,k=m+1-j/\j<=a/\iv=.int .i64 (j:Int)/\AA w4 wr)
 case atStart=>exact ⟨0,AD,AD,rfl,AA.refl _⟩
 case round=>
  obtain ⟨j,hk,hj,rfl,EW⟩:=hrel;have AW:=Bl.trans EW;have CR:=AB EW BK;have Dy:=AE CR;have HBw:=AC EW;by_cases BN:j<a
  ·have lj:j<l.length:=by rw[HN.out];omega
   obtain ⟨b,off,rfl,hb,k0,k1⟩:=Kk j lj;have c0:wr.cell? ⟨b,off+j*2,none⟩=some (.int .i64 l[j].1):=(AW.below.cell hb).trans k0;have c1:wr.cell? ⟨b,off+j*2+1,none⟩=some (.int .i64 l[j].2):=(AW.below.cell hb).trans k1;have i1:=vh j lj BN;have i0:(j:Int)<(m:Int):=AD;clear k0 k1;generalize l[j]=x at *;obtain ⟨f2,t2⟩:=x;simp only at c0 c1 i1
   go_wp2_with fail
   go_quiet (fail)
   go_wp2_with fail;go_roundg (m+1-(j+1))
   case measure=>omega
   case rel=>exact ⟨j+1,rfl,BN,by go_num,HBw.out.drewN _⟩
  ·obtain rfl:j=a:=AD
   have e1:((m:Int) == 65536)=false:=by simp;omega
   rcases Nat.lt_or_ge j m with hm|hm
   ·have lj:j<l.length:=by rw[HN.out];exact hm
    obtain ⟨b,off,rfl,hb,k0,k1⟩:=Kk j lj;have c0:wr.cell? ⟨b,off+j*2,none⟩=some (.int .i64 l[j].1):=(AW.below.cell hb).trans k0;have c1:wr.cell? ⟨b,off+j*2+1,none⟩=some (.int .i64 l[j].2):=(AW.below.cell hb).trans k1;have i1:decide (l[j].2<=f)=false:=decide_eq_false (by have:=Gb lj;omega);have i0:(j:Int)<(m:Int):=AD;have HQ:Hid (C7 (f,t) l=true↔l[j].1<t):=AC (fP.out.trans ⟨fun ⟨_,h⟩=>h,fun h=>⟨lj,h⟩⟩);clear k0 k1;generalize l[j]=x at *;obtain ⟨f2,t2⟩:=x;simp only at c0 c1 i1
    by_cases h1:f2<t
    ·have HE:=AC (Ta (HQ.out.2 h1));go_wp2_with fail
     go_quiet (fail)
     go_wp2_with fail
     go_quiet (fail)
     go_wp2_with fail;refine bodyPost_ret (v:=.tuple #[.slice none 0 0,.int .i64 4]) (by simp[results,results85,go_sem]) rfl ⟨_,by rw[HE.out.1],(AW.drewN _).drewN _,by rw[HE.out.2];exact QT.void _⟩
    ·have i2:decide (f2<t)=false:=decide_eq_false h1;have HE:=AC (Q5 (Bool.eq_false_iff.2 fun q=>h1 (HQ.out.1 q)));go_wp2_with fail
     go_quiet (fail)
     go_wp2_with fail
     go_quiet (fail)
     go_wp2_with fail;refine BW (fun wS=>AA wr wS) ((AA.refl wr).drewN _) ?_;rintro w5 Bd;have DW:=AW.trans Bd;have DD:=AB Bd CR;(try clear Dy);clear c0 c1;apply Wild.AP (12) [⟨2,55,.slice A1 j Cg,false,fun v _=>v=.slice A1 j Cg⟩,⟨4,57,undef,true,fun u w=>QR w u [(f,t)]⟩,⟨7,60,.slice A3 m3 E7,false,fun v _=>v=.slice A3 m3 E7⟩,⟨8,61,undef,true,GA (.slice A1 j Cg) (.slice A3 m3 E7) [(f,t)]⟩,⟨9,62,undef,true,fun u w=>QT w u (l.take j++[(f,t)]++l.drop j)⟩,⟨10,6,undef,true,fun u w=>QT w u (l.take j++[(f,t)]++l.drop j)⟩] [⟨4,57,fun u w=>QR w u [(f,t)]⟩,⟨8,61,GA (.slice A1 j Cg) (.slice A3 m3 E7) [(f,t)]⟩,⟨9,62,fun u w=>QT w u (l.take j++[(f,t)]++l.drop j)⟩,⟨10,6,fun u w=>QT w u (l.take j++[(f,t)]++l.drop j)⟩] rfl AY AY AY Ar AY
     case hstab=>
      intro c hc;rcases Cv hc with rfl|rfl|rfl|rfl|rfl|rfl
      ·intro v x y BE hv;exact hv
      ·intro v x y BE hv;exact (fun h k=>QR.later k h) BE hv
      ·intro v x y BE hv;exact hv
      ·intro v x y BE hv;exact (fun h k=>GA.later h k) BE hv
      ·intro v x y BE hv;exact (fun h k=>QT.later k h) BE hv
      ·intro v x y BE hv;exact (fun h k=>QT.later k h) BE hv
     case hfix=>
      intro c hc;rcases Cv hc with rfl|rfl|rfl|rfl|rfl|rfl
      ·exact .inr fun u x h=>h
      ·exact .inl rfl
      ·exact .inr fun u x h=>h
      ·exact .inl rfl
      ·exact .inl rfl
      ·exact .inl rfl
     case hlex=>
      intro U hU;have q0:=AE (AB hU DD);refine Hj ?_
      repeat (go_big_quiet_step (fail))
      exact wpQuiet_nil rfl
     case hstep=>
      intro j hj o ho;have CQ:j=0\/j=1\/j=2\/j=3\/j=4\/j=5:=by simp at hj;omega
      rcases CQ with rfl|rfl|rfl|rfl|rfl|rfl
      ·cases ho;refine ⟨rfl,fun g x hx hp=>?_⟩;clear hp;refine Bp ?_
       (refine Wild.Gx ?_;simp[go_sem,execOp,K1.out])
      ·cases ho;refine ⟨rfl,fun g x hx hp=>?_⟩;clear hp;refine Bp ?_;refine Wild.Ea (v:=.slice (some ⟨x.heap.size,0,none⟩) 1 1) (w':=x.alloc (.cells #[.int .i64 f,.int .i64 t] 69)) (by simp[go_sem,execOp]) ((AA.refl x).alloc _) (OQ.rq (OQ.one (B:=0) (r:=(f,t)) (zero_le _) (Ae rfl)))
      ·cases ho;refine ⟨rfl,fun g x hx hp=>?_⟩;clear hp;refine Bp ?_
       (refine Wild.Gx ?_;simp[go_sem,execOp,K3.out])
      ·cases ho;refine ⟨rfl,fun g x hx hp=>?_⟩;have wb:(fun u w=>QR w u [(f,t)]) (g 4) x:=hp _ (mem_of_getElem? (i:=0) rfl) (List.contains_iff_mem.1 AY);clear hp;refine Bp ?_
       (obtain ⟨A7,c7,e7,-⟩:=wb.form;refine Wild.Ea (v:=.slice (some ⟨x.heap.size,0,none⟩) 3 3) (w':=x.alloc (.cells #[.slice A1 j Cg,.slice A7 1 c7,.slice A3 m3 E7] 36)) (by simp[go_sem,execOp,e7]) ((AA.refl x).alloc _) (R6 (by have q:QR x (g 4) [(f,t)]:=wb;rw[e7]at q;exact q)))
      ·cases ho;refine ⟨rfl,fun g x hx hp=>?_⟩;have p61:(GA (.slice A1 j Cg) (.slice A3 m3 E7) [(f,t)]) (g 8) x:=hp _ (mem_of_getElem? (i:=1) rfl) (List.contains_iff_mem.1 AY);clear hp;refine Bp ?_;refine AO ?_ (Wild.Ai (Yv x _ (DW.trans hx) p61));simp[go_sem,execOp]
      ·cases ho;refine ⟨rfl,fun g x hx hp=>?_⟩;have p62:(fun u w=>QT w u (l.take j++[(f,t)]++l.drop j)) (g 9) x:=hp _ (mem_of_getElem? (i:=2) rfl) (List.contains_iff_mem.1 AY);clear hp;refine Bp ?_;refine Wild.Dv (v:=g 9) ?_ p62;simp[go_sem,execOp]
     case htail=>
      intro g u Aw Az;have Ec:AA w5 (later u):=⟨u,rfl⟩;generalize later u=w6 at *;clear u Az;obtain ⟨Xl,-⟩:=Aw _ (mem_of_getElem? (i:=0) rfl);(try dsimp only at Xl)
      obtain ⟨ZE,-⟩:=Aw _ (mem_of_getElem? (i:=1) rfl);(try dsimp only at ZE)
      obtain ⟨XX,-⟩:=Aw _ (mem_of_getElem? (i:=2) rfl);(try dsimp only at XX)
      obtain ⟨W7,-⟩:=Aw _ (mem_of_getElem? (i:=3) rfl);(try dsimp only at W7)
      clear Aw;refine DH ?_;generalize g 4=v57 at *;generalize g 8=v61 at *;generalize g 9=v62 at *;generalize g 10=v6 at *;have IV:=DW.trans Ec;go_wp2_with fail;refine bodyPost_ret (v:=.tuple #[v6,.int .i64 0]) (by simp[results,results85,go_sem]) rfl ⟨_,by rw[HE.out.1],IV,by rw[HE.out.2,HP.out];exact W7⟩
   ·obtain rfl:j=m:=AD
    have i0:decide ((j:Int)<(j:Int))=false:=Ar;have HE:=AC (Q5 (Bool.eq_false_iff.2 fun q=>by obtain ⟨h,_⟩:=fP.out.1 q;rw[HN.out]at h;omega));go_wp2_with fail
    go_quiet (fail)
    go_wp2_with fail
    go_quiet (fail)
    go_wp2_with fail;refine BW (fun wS=>AA wr wS) ((AA.refl wr).drewN _) ?_;rintro w5 Bd;have DW:=AW.trans Bd;have DD:=AB Bd CR;(try clear Dy);apply Wild.AP (12) [⟨2,55,.slice A1 j Cg,false,fun v _=>v=.slice A1 j Cg⟩,⟨4,57,undef,true,fun u w=>QR w u [(f,t)]⟩,⟨7,60,.slice A3 m3 E7,false,fun v _=>v=.slice A3 m3 E7⟩,⟨8,61,undef,true,GA (.slice A1 j Cg) (.slice A3 m3 E7) [(f,t)]⟩,⟨9,62,undef,true,fun u w=>QT w u (l.take j++[(f,t)]++l.drop j)⟩,⟨10,6,undef,true,fun u w=>QT w u (l.take j++[(f,t)]++l.drop j)⟩] [⟨4,57,fun u w=>QR w u [(f,t)]⟩,⟨8,61,GA (.slice A1 j Cg) (.slice A3 m3 E7) [(f,t)]⟩,⟨9,62,fun u w=>QT w u (l.take j++[(f,t)]++l.drop j)⟩,⟨10,6,fun u w=>QT w u (l.take j++[(f,t)]++l.drop j)⟩] rfl AY AY AY Ar AY
    case hstab=>
     intro c hc;rcases Cv hc with rfl|rfl|rfl|rfl|rfl|rfl
     ·intro v x y BE hv;exact hv
     ·intro v x y BE hv;exact (fun h k=>QR.later k h) BE hv
     ·intro v x y BE hv;exact hv
     ·intro v x y BE hv;exact (fun h k=>GA.later h k) BE hv
     ·intro v x y BE hv;exact (fun h k=>QT.later k h) BE hv
     ·intro v x y BE hv;exact (fun h k=>QT.later k h) BE hv
    case hfix=>
     intro c hc;rcases Cv hc with rfl|rfl|rfl|rfl|rfl|rfl
     ·exact .inr fun u x h=>h
     ·exact .inl rfl
     ·exact .inr fun u x h=>h
     ·exact .inl rfl
     ·exact .inl rfl
     ·exact .inl rfl
    case hlex=>
     intro U hU;have q0:=AE (AB hU DD);refine Hj ?_
     repeat (go_big_quiet_step (fail))
     exact wpQuiet_nil rfl
    case hstep=>
     intro j hj o ho;have CQ:j=0\/j=1\/j=2\/j=3\/j=4\/j=5:=by simp at hj;omega
     rcases CQ with rfl|rfl|rfl|rfl|rfl|rfl
     ·cases ho;refine ⟨rfl,fun g x hx hp=>?_⟩;clear hp;refine Bp ?_
      (refine Wild.Gx ?_;simp[go_sem,execOp,K1.out])
     ·cases ho;refine ⟨rfl,fun g x hx hp=>?_⟩;clear hp;refine Bp ?_;refine Wild.Ea (v:=.slice (some ⟨x.heap.size,0,none⟩) 1 1) (w':=x.alloc (.cells #[.int .i64 f,.int .i64 t] 69)) (by simp[go_sem,execOp]) ((AA.refl x).alloc _) (OQ.rq (OQ.one (B:=0) (r:=(f,t)) (zero_le _) (Ae rfl)))
     ·cases ho;refine ⟨rfl,fun g x hx hp=>?_⟩;clear hp;refine Bp ?_
      (refine Wild.Gx ?_;simp[go_sem,execOp,K3.out])
     ·cases ho;refine ⟨rfl,fun g x hx hp=>?_⟩;have wb:(fun u w=>QR w u [(f,t)]) (g 4) x:=hp _ (mem_of_getElem? (i:=0) rfl) (List.contains_iff_mem.1 AY);clear hp;refine Bp ?_
      (obtain ⟨A7,c7,e7,-⟩:=wb.form;refine Wild.Ea (v:=.slice (some ⟨x.heap.size,0,none⟩) 3 3) (w':=x.alloc (.cells #[.slice A1 j Cg,.slice A7 1 c7,.slice A3 m3 E7] 36)) (by simp[go_sem,execOp,e7]) ((AA.refl x).alloc _) (R6 (by have q:QR x (g 4) [(f,t)]:=wb;rw[e7]at q;exact q)))
     ·cases ho;refine ⟨rfl,fun g x hx hp=>?_⟩;have p61:(GA (.slice A1 j Cg) (.slice A3 m3 E7) [(f,t)]) (g 8) x:=hp _ (mem_of_getElem? (i:=1) rfl) (List.contains_iff_mem.1 AY);clear hp;refine Bp ?_;refine AO ?_ (Wild.Ai (Yv x _ (DW.trans hx) p61));simp[go_sem,execOp]
     ·cases ho;refine ⟨rfl,fun g x hx hp=>?_⟩;have p62:(fun u w=>QT w u (l.take j++[(f,t)]++l.drop j)) (g 9) x:=hp _ (mem_of_getElem? (i:=2) rfl) (List.contains_iff_mem.1 AY);clear hp;refine Bp ?_;refine Wild.Dv (v:=g 9) ?_ p62;simp[go_sem,execOp]
    case htail=>
     intro g u Aw Az;have Ec:AA w5 (later u):=⟨u,rfl⟩;generalize later u=w6 at *;clear u Az;obtain ⟨Xl,-⟩:=Aw _ (mem_of_getElem? (i:=0) rfl);(try dsimp only at Xl)
     obtain ⟨ZE,-⟩:=Aw _ (mem_of_getElem? (i:=1) rfl);(try dsimp only at ZE)
     obtain ⟨XX,-⟩:=Aw _ (mem_of_getElem? (i:=2) rfl);(try dsimp only at XX)
     obtain ⟨W7,-⟩:=Aw _ (mem_of_getElem? (i:=3) rfl);(try dsimp only at W7)
     clear Aw;refine DH ?_;generalize g 4=v57 at *;generalize g 8=v61 at *;generalize g 9=v62 at *;generalize g 10=v6 at *;have IV:=DW.trans Ec;go_wp2_with fail;refine bodyPost_ret (v:=.tuple #[v6,.int .i64 0]) (by simp[results,results85,go_sem]) rfl ⟨_,by rw[HE.out.1],IV,by rw[HE.out.2,HP.out];exact W7⟩
theorem gZ(v:Value)(l:Qs)(f t n:Int)(w:World)(hv:QR w v l)(hl:l.length<=60000):
 Calls prog 85 #[v,.agg #[.int .i64 f,.int .i64 t],.int .i64 n] w (WM l (f,t) n w):=by
 cases hg:BJ n 0 l with
 |false=>exact iZ v l f t n w hv hl hg
 |true=>
  cases hf:Ed n (f,t) with
  |false=>exact V6 v l f t n w hv hl hg hf
  |true=>exact dl v l f t n w hv hl hg hf
end
end Go.Proofs.YtamhnffokoejjaaGreatDoor
