import Derived.Test.YtamhnffokoejjaaGreatDoorKwbp
set_option linter.all false
set_option maxHeartbeats 3200000
set_option maxRecDepth 100000
namespace Go.Proofs.YtamhnffokoejjaaGreatDoor
open List(replicate length_append length_take length_drop length_replicate mem_of_getElem?)
open Nat(zero_le le_trans)
open Go.Proofs.Tryz
open Go.RowKit
section
variable{x:ES}{f st t:Int}{H:List Bool}{S b:List Int}{B s:Nat}{L:Qs}{m:Sc}{w w':World}
theorem U8(v v2:Value)(p q:Int->Bool)(N:Nat)(w:World)(h:BG p v w)(h2:BG q v2 w)(hN:N<=5000)(hp:∀y,p y=true->0<=y/\y<(N:Int))(hq:∀y,q y=true->0<=y/\y<(N:Int)):
 Calls prog 125 #[v,v2] w fun e w'=>∃u,e=.returned u/\AA w w'/\BG (fun y=>p y && q y) u w':=by
 obtain ⟨T,t1,t2,t3⟩:=h;obtain ⟨U,u1,u2,u3⟩:=h2;have l1:=(NB t2 (fun y hy=>hp y (by rw[<-t3];exact hy))).2;have l2:=(NB u2 (fun y hy=>hq y (by rw[<-u3];exact hy))).2;refine (Sx v v2 T U w t1.1 u1.1 AD AD).mono ?_;rintro e w' ⟨u,R,rfl,a,h1,h2,h3⟩;exact ⟨u,rfl,a,R,h1,h2,fun y=>by have:=h3 y;simp only at this;rw[this,t3,u3]⟩
theorem lJ{g:Nat}{f t:Nat}(h:w.heap[g]?=some (.cells #[.int .i64 (f:Int),.int .i64 (t:Int)] 170))(qL:f<t)(ht:t<=100000):BG (fun y=>decide ((f:Int)<=y/\y<t)) (.slice (some ⟨g,0,none⟩) 1 1) w:=by
 have o:OB w 0 (.slice (some ⟨g,0,none⟩) 1 1) [((f:Int),(t:Int))]:=⟨rfl,.inr ⟨g,1,_,rfl,zero_le _,h,Nat.le_refl _,by unfold maxLen;omega,rfl,rfl⟩⟩;refine ⟨_,o.yu,⟨fun b hb=>?_,List.pairwise_singleton _ _⟩,fun y=>?_⟩
 ·rcases List.mem_singleton.1 hb with rfl;exact ⟨by simp only;omega,by simp only;omega,by simp only;omega⟩
 ·unfold C9;rw[List.any_cons,List.any_nil,Bool.or_false,decide_eq_decide];simp only
  omega
def zv(P0:World->Prop)(P1:Value->World->Prop):Nat->(Nat->Value)->World->Prop
 |0,_,x=>P0 x
 |_,g,x=>P1 (g 12) x
theorem VV(first last now:Nat)(w:World)(h:Dr B w s x m b S L H)(ok:Sw b S)(hg:Dh w)(hB:B<=w.heap.size)(Pu:BO m.wd)(S6:0<=m.ld/\m.ld<=2000000000)(h1:first<=last)(h2:first<=now)(h3:last<L.length)(h4:now<=(Ap 0 b).length)(h5:L.length-last=(Ap 0 b).length+1-now)(hL:L.length<=1000)(hF:m.F.length<=900):
 Calls prog 83 #[.pointer (some ⟨s,0,none⟩),.int .i64 (first:Int),.int .i64 (last:Int),.int .i64 (now:Int)] w fun e w'=>e=.returned (.tuple #[])/\∃T,(∀y,C9 T y=(decide ((first:Int)<=y/\y<=now) && Gz (Ap 0 b) b.length y m.F))/\MY B w s x {m with ld:=m.ld+((now-first+1:Nat):Int)} b S (G_ L (Fq (Bu m.wd) b S first (now-first+1)) first (last-first+1)) (Gr T true (G_ H (replicate (now-first+1) false) first (last-first+1))) w':=by
 have sr:(Ap 0 b).length<=900:=le_trans (Dg b 0) ok.len;obtain ⟨n,hn⟩:=BZ (now-first+1);obtain ⟨d,hd⟩:=BZ (last-first+1);have e1:(now:Int)=(first:Int)+n-1:=AD;have e2:(last:Int)-first+1=d:=AD
 have HM:=AC (fun (w':World) (a:AA w w')=>Rv first n w' (h.later a) ok (hg.later a) (le_trans hB a.below.size) Pu S6 AD);have hlH:=h.RF.len;have gF:=Nk ok m.wd (f:=first) (n:=n) AD;have rY:=IQ (Bu m.wd) b S first n
 rw[hn,hd];obtain ⟨M,hM⟩:=BZ (Fq (Bu m.wd) b S first n);rw[hM]at HM gF rY ⊢;have Tt:M.any CF=false:=by rw[List.any_eq_false];exact fun r hr=>by rw[gF r hr];decide
 have hLL:(G_ L M first d).length=(Ap 0 b).length+1:=by
  unfold G_;simp only[length_append,length_take,length_drop,rY];omega
 have hHL:(G_ H (replicate n false) first d).length=(Ap 0 b).length+1:=by
  unfold G_;simp only[length_append,length_take,length_drop,length_replicate];omega
 have im:=AC (fun (w':World) (C:Nat) (u:Value) (h':Dr B w' s x {m with ld:=m.ld+n} b S L H) (hB':B<=w'.heap.size) (o:OQ 61 w' C u M)=>(by
  have q:=Rs x.hg x.K L M H first d C u w' h'.RF hB' o AD AD Tt
  rw[rY]at q;exact q.mono fun e Bg ⟨q1,q2⟩=>⟨q1,h'.KQ q2⟩:Calls prog 90 #[.pointer (some ⟨x.hg,0,none⟩),.int .i64 (first:Int),.int .i64 (d:Int),u] w' fun e Bg=>e=.returned (.int .i64 0)/\∃K',Dr B Bg s {x with K:=K'} {m with ld:=m.ld+n} b S (G_ L M first d) (G_ H (replicate n false) first d)/\(∀q∈K',q∈x.K\/w'.heap.size<=q)/\Ch B w' Bg/\AZ (HC B w' x.hg x.K) w' Bg))
 have HHd:=AC (fun (w':World) (K:List Nat) (h':Dr B w' s {x with K:=K} {m with ld:=m.ld+n} b S (G_ L M first d) (G_ H (replicate n false) first d))=>KZ x.v3 m.F w' h' h'.Hl.1 hF);obtain ⟨P,hP⟩:∃P:Int->Bool,(fun y=>Gz (Ap 0 b) b.length y m.F)=P:=⟨_,rfl⟩;have pk:∀y,P y=true->0<=y/\y<(((Ap 0 b).length+1:Nat):Int):=fun y hy=>Nt (l:=m.F) (by rw[<-hP]at hy;exact hy)
 rw[hP]at HHd;have HMt:=AC (fun (w':World) (v v2:Value) (q1:BG P v w') (q2:BG (fun y=>decide ((first:Int)<=y/\y<((now+1:Nat):Int))) v2 w')=>U8 v v2 P (fun y=>decide ((first:Int)<=y/\y<((now+1:Nat):Int))) ((Ap 0 b).length+1) w' q1 q2 AD pk (fun y hy=>by have:=of_decide_eq_true hy;omega));have HD:=AC (fun (v:Value) (w':World) (K:List Nat) (h':Dr B w' s {x with K:=K} {m with ld:=m.ld+n} b S (G_ L M first d) (G_ H (replicate n false) first d)) (hv:BG (fun y=>P y && decide ((first:Int)<=y/\y<((now+1:Nat):Int))) v w')=>QC v _ true w' h' hv (fun y hy=>by rw[hHL];exact pk y (Bool.and_eq_true_iff.1 hy).1));have rm:Hid (∀y,(P y && decide ((first:Int)<=y/\y<((now+1:Nat):Int)))=(decide ((first:Int)<=y/\y<=now) && Gz (Ap 0 b) b.length y m.F)):=AC (fun y=>by
  rw[<-hP,Bool.and_comm]
  congr 1
  rw[decide_eq_decide];omega)
 obtain ⟨P2,hP2⟩:∃P2:Int->Bool,(fun y=>P y && decide ((first:Int)<=y/\y<((now+1:Nat):Int)))=P2:=⟨_,rfl⟩;rw[hP2]at HMt HD;clear hP2;have J11:now<=900/\first<=900/\last<=1000/\first<now+1:=AD
 have qM:=AC e1;have sH:=AC e2;have HS:=AC h;have HBB:=AC hB;have Ag:=h.CT;simp only[KF]at Ag;clear h ok hg hB Pu S6 h1 h2 h3 h4 h5 hL hF sr hn hd e1 e2 hlH gF rY hM Tt hLL hHL hP pk;go_enter func83,ntmps83;go_wp2_with fail;apply CS 13 [(12,undef)] [⟨12,21,fun _ _=>True⟩] (fun x'=>x'.cell? ⟨s,6,none⟩=some (.pointer (some ⟨x.hg,0,none⟩))) (zv (fun W=>AA w W) (fun u W=>Dr B W s x {m with ld:=m.ld+n} b S L H/\OQ 61 W w.heap.size u M/\Ch B w W)) AY AY AY Ar AY (AE Ag 6) (fun _=>(AA.refl w).drew)
 case hlex=>
  intro U hU;have i1:(last:Int)-first+1<=5000:=AD
  simp only[actFrom,actOp,List.lookup,Nat.reduceBEq,Nat.reduceLeDiff,Nat.reduceAdd,if_false,if_true]
  repeat (go_big_quiet_step (fail))
  exact wpQuiet_nil rfl
 case hact=>
  intro jj WT o ho;have PA:jj=0:=by simp at WT;omega
  subst PA;cases ho;refine ⟨rfl,fun gv x' hC hS=>?_⟩;have D9:AA w x':=hS;refine Bp ?_;rw[qM.out];refine AO ?_ ((HM x' D9).mono fun e Bg ⟨u,w1,q1,q2,q3,q4⟩=>(by
   have Z3:=HS.out.later (D9.trans q2);have MI:Dr B Bg s x {m with ld:=m.ld+n} b S L H:=by
    rw[q3];exact Z3.store (m':={m with ld:=m.ld+n}) (by simp[KF]) ⟨rfl,rfl,rfl,rfl,rfl,rfl⟩ Z3.runs Z3.ends Z3.Hl
   have D4:Ch B w Bg:=by
    rw[q3];exact AZ.setCell (.of (D9.trans q2)) HS.out.self _
   exact ⟨u,q1,AE MI.CT 6,.inl ⟨_,mem_of_getElem? (i:=0) rfl,rfl⟩,MI,owns_base' q4 D9.below.size,D4⟩))
  simp[go_sem,execOp]
 case htail=>
  intro gz wz hC hS;obtain ⟨hs,ho,hc⟩:Dr B wz s x {m with ld:=m.ld+n} b S L H/\OQ 61 wz w.heap.size (gz 12) M/\Ch B w wz:=hS;have HQ:=AC (And.intro hs hc);refine DH ?_;generalize gz 12=u at *;have HO:=AC ho;obtain ⟨A1,Cg,rfl,-⟩:=(OQ.rq ho).form;generalize M.length=ml at *;rw[sH.out];clear hs ho hc hC;go_wp2_with fail;refine (im wz _ _ HQ.out.1 (le_trans HBB HQ.out.2.size) HO.out).mono ?_;rintro e w2 ⟨rfl,K2,q1,q2,q3,q4⟩;have SB:=AC (And.intro q1 (HQ.out.2.trans q3));have AU:=q1.CT;simp only[KF]at AU;have AR:=AA.refl w2;clear q1 q2 q3 q4;go_wp2_with fail;refine JL w2 (w2.heap.size) (.cells #[.int .i64 (first:Int),.int .i64 ((now:Int)+1)] 170) ?_;intro w3 AX BD;have An:=AR.trans AX;have Ah:=AB AX AU;have v_:Hid (BG (fun y=>decide ((first:Int)<=y/\y<((now+1:Nat):Int))) (.slice (some ⟨w2.heap.size,0,none⟩) 1 1) w3):=AC (lJ (t:=now+1) (by rw[Int.natCast_add];exact BD) J11.2.2.2 AD);have uX:=AC (SB.out.1.later An);apply Wild.AP (12) [⟨9,37,undef,true,BG P⟩,⟨11,39,undef,true,BG P2⟩] [⟨9,37,BG P⟩,⟨11,39,BG P2⟩] rfl AY AY AY Ar AY
  case hstab=>
   intro c hc;rcases Cv hc with rfl|rfl
   ·intro v x y BE hv;exact (fun h k=>BG.later h k) BE hv
   ·intro v x y BE hv;exact (fun h k=>BG.later h k) BE hv
  case hfix=>
   intro c hc;rcases Cv hc with rfl|rfl
   ·exact .inl rfl
   ·exact .inl rfl
  case hlex=>
   intro U hU;have q0:=AE (AB hU Ah);have q1:=AE (AB hU BD);refine Hj ?_
   repeat (go_big_quiet_step (fail))
   exact wpQuiet_nil rfl
  case hstep=>
   intro j hj o ho;have CQ:j=0\/j=1:=by simp at hj;omega
   rcases CQ with rfl|rfl
   ·cases ho;refine ⟨rfl,fun g x hx hp=>?_⟩;clear hp;refine Bp ?_;refine AO ?_ (Wild.Ai (HHd x K2 (uX.out.later hx)));simp[go_sem,execOp]
   ·cases ho;refine ⟨rfl,fun g x hx hp=>?_⟩;have xK:(BG P) (g 9) x:=hp _ (mem_of_getElem? (i:=0) rfl) (List.contains_iff_mem.1 AY);clear hp;refine Bp ?_;refine AO ?_ (Wild.Ai (HMt x _ _ xK (v_.out.later hx)));simp[go_sem,execOp]
  case htail=>
   intro g u Aw Az;have Ao:AA w3 (later u):=⟨u,rfl⟩;generalize later u=w4 at *;clear u Az;obtain ⟨TU,-⟩:=Aw _ (mem_of_getElem? (i:=0) rfl);(try dsimp only at TU)
   obtain ⟨Tf,-⟩:=Aw _ (mem_of_getElem? (i:=1) rfl);(try dsimp only at Tf)
   clear Aw;refine DH ?_;generalize g 9=v37 at *;generalize g 11=v39 at *;have Bl:=An.trans Ao;have BK:=AB Ao Ah;have CE:=AB Ao BD;obtain ⟨Dz,FK⟩:=DX BK;obtain ⟨Is,Me⟩:=DX CE;have HP:=AC Tf;have WP:=AC Bl;obtain ⟨A5,n5,c5,rfl⟩:=Tf.form;clear TU Tf Dz FK Is Me;go_wp2_with fail;refine (HD _ w4 K2 (SB.out.1.later WP.out) HP.out).mono ?_;rintro e w5 ⟨rfl,T,t1,K5,q1,q2⟩;have HR:=AC (And.intro t1 (And.intro q1 q2));clear t1 q1 q2;go_wp2_with fail;exact bodyPost_end (v:=.tuple #[]) (by simp[results,results83,go_sem]) rfl ⟨rfl,T,fun y=>(HR.out.1 y).trans (rm y),K5,HR.out.2.1,SB.out.2.trans ((Ch.of WP.out).trans HR.out.2.2)⟩
theorem Sq(n c:Int)(hc:Fo n=c)(w:World):Calls prog 37 #[.int .i64 n] w fun e w'=>e=.returned (.int .i64 c)/\w=w':=by
 have e:Cq n 1 4096=c:=by
  rw[<-hc];unfold Cq Fo;by_cases h:n<1
  ·rw[if_pos (.inl h),if_pos h]
  ·rw[if_neg AD,if_neg h]
 have HC:=AC (Mp n 1 4096 w c e);clear hc e;go_enter func37,ntmps37;go_wp2_with fail;refine HC.out.mono ?_;rintro e w' ⟨rfl,rfl⟩;go_wp2_with fail;go_ret;exact ⟨rfl,rfl⟩
noncomputable def Fe(m:Sc)(k:Int):List Ld:=if 0<=k/\k<=((Ap 0 m.b).length:Int) then C6 m.wd (A_ m.b m.b k.toNat) (A_ m.b m.S k.toNat) else []
theorem MF(k:Int)(w:World)(h:KD B w s x m)(hg:Dh w):Calls prog 25 #[.pointer (some ⟨s,0,none⟩),.int .i64 k] w fun e w'=>∃u,e=.returned u/\AA w w'/\LR w' u (Fe m k):=by
 have hn9:=h.nf;have OT:x.t.nf=(Ap 0 m.b).length:=by rw[<-EZ];unfold J_;rw[h.p.tb]
 have ah:=AC (FI x.tg x.g m.most x.t w h.p.tx AD);rw[OT]at ah;have Ag:=h.p.CT;simp only[KF]at Ag;have Bx:=AE Ag;by_cases h0:k<0
 ·have HE:Hid (Fe m k=[]):=AC (by unfold Fe;rw[if_neg AD]);clear h hg ah OT;go_enter func25,ntmps25;go_wp2_with fail;go_ret;exact ⟨_,rfl,AA.refl _,by rw[HE.out];exact LR.void _ _ _⟩
 ·by_cases h1:k<=((Ap 0 m.b).length:Int)
  ·obtain ⟨n,rfl⟩:=Int.eq_ofNat_of_zero_le (show 0<=k by omega);have HR:=AC (fun w' (a:AA w w')=>cD n w' (h.p.later a) h.ok.t (hg.later a) h.ok.kL AD);have HE:Hid (Fe m (n:Int)=C6 m.wd (A_ m.b m.b n) (A_ m.b m.S n)):=AC (by unfold Fe;rw[if_pos AD,Int.toNat_natCast]);have d0:decide (((n:Nat):Int)<0)=false:=decide_eq_false AD;have d1:decide ((Ap 0 m.b).length+1<=n)=false:=decide_eq_false AD;clear h hg OT h0 h1;generalize (Ap 0 m.b).length+1=N at *;go_enter func25,ntmps25;go_wp2_with fail;refine (ah.out).mono ?_;rintro e w1 ⟨rfl,AJ⟩;have AG:=AJ;go_wp2_with fail;refine (HR w1 AG).mono ?_;rintro e w2 ⟨u,rfl,b2,q⟩;have HQ:=AC (And.intro (AG.trans b2) q.lr);obtain ⟨A,c,rfl,-⟩:=q.lr.form;generalize (C6 m.wd (A_ m.b m.b n) (A_ m.b m.S n)).length=rn at *;clear b2 q;go_wp2_with fail;go_ret;exact ⟨_,rfl,HQ.out.1,by rw[HE.out];exact HQ.out.2⟩
  ·have HE:Hid (Fe m k=[]):=AC (by unfold Fe;rw[if_neg AD]);have d0:decide (k<0)=false:=decide_eq_false AD;have d1:decide ((((Ap 0 m.b).length+1:Nat):Int)<=k)=true:=decide_eq_true AD;clear h hg OT h0 h1;generalize (Ap 0 m.b).length+1=N at *;go_enter func25,ntmps25;go_wp2_with fail;refine (ah.out).mono ?_;rintro e w1 ⟨rfl,AJ⟩;have AG:=AJ;go_wp2_with fail;go_ret;exact ⟨_,rfl,AG,by rw[HE.out];exact LR.void _ _ _⟩
def RM(B:Nat)(w:World):Prop:=∃W,Dh W/\W.heap.size<=B/\AA W w
theorem RM.nX(h:RM B w):Dh w:=by
 obtain ⟨W,h1,_,h3⟩:=h;exact h1.later h3
theorem RM.ch(h:RM B w)(c:Ch B w w'):RM B w':=by
 obtain ⟨W,h1,h2,h3⟩:=h;exact ⟨W,h1,h2,c.any h3 h2⟩
theorem RM.later(h:RM B w)(a:AA w w'):RM B w':=h.ch (.of a)
theorem Dr.base(h:Dr B w s x m b S L H):B<=w.heap.size:=Nat.le_of_lt (Nat.lt_of_le_of_lt h.bs (As h.CT))
def BC(b:List Int)(p:Int):Nat:=below p (Ap 0 b)
def Mm(m:Sc)(f t st:Int):Int:=if f<0\/t<f\/(m.S.length:Int)<t then 1 else if BL st then 0 else 5
def Iw(m:Sc)(f t st:Int):Sc:=if Mm m f t st=0 then {m with S:=GQ m.S f t st,ld:=m.ld+((BC m.b t-BC m.b f+1:Nat):Int)} else m
theorem Vh(h0:0<=f)(h1:f<=t)(h2:t<=S.length):(GQ S f t st).length=S.length:=by
 unfold GQ;simp only[length_append,length_take,length_drop,length_replicate];omega
theorem ce(h:∀s∈S,BL s=true)(hs:BL st=true):∀s∈GQ S f t st,BL s=true:=by
 intro s MI;unfold GQ at MI;rcases List.mem_append.1 MI with q|q
 ·rcases List.mem_append.1 q with q|q
  ·exact h s (List.mem_of_mem_take q)
  ·rw[List.eq_of_mem_replicate q];exact hs
 ·exact h s (List.mem_of_mem_drop q)
theorem ix(h0:0<=f)(h1:f<=t)(h2:t<=S.length){p:Nat}(hp:(p:Int)<f\/t<p):(GQ S f t st)[p]?=S[p]?:=by
 unfold GQ;have l1:(S.take f.toNat++replicate (t-f).toNat st).length=t.toNat:=by simp only[length_append,length_take,length_replicate];omega
 rcases hp with q|q
 ·rw[List.append_assoc,List.getElem?_append_left (by rw[length_take];omega),List.getElem?_take_of_lt AD]
 ·rw[List.getElem?_append_right AD,l1,List.getElem?_drop,show t.toNat+(p-t.toNat)=p by omega]
theorem Rz(h0:0<=f)(qL:f<=t)(ht:t<=b.length):BC b f<=BC b t/\BC b t<=(Ap 0 b).length:=by
 have hF:=GJ b;have l1:=Iq (F:=Ap 0 b) (n:=b.length) h0 AD;have l2:=Iq (F:=Ap 0 b) (n:=b.length) (x:=t) AD ht;exact ⟨(ED hF l1.1 AD).2 (by have:=l1.2.1;omega),l2.1⟩
theorem Sb{wd:Int}{S':List Int}(h0:0<=f)(qL:f<=t)(ht:t<=b.length)(hl:S'.length=S.length)(h:∀p:Nat,(p:Int)<f\/t<p->S'[p]?=S[p]?):
 G_ (Co (Bu wd) b S) (Fq (Bu wd) b S' (BC b f) (BC b t-BC b f+1)) (BC b f) (BC b t-BC b f+1)=Co (Bu wd) b S':=(mx (Bu wd) h0 qL ht hl h).symm
theorem YF(f t st:Int)(w:World)(h:KD B w s x m)(hg:RM B w)(hf:BO f)(ht:BO t)(Aw:BO st)(S6:m.ld<=900000000):
 Calls prog 31 #[.pointer (some ⟨s,0,none⟩),.int .i64 f,.int .i64 t,.int .i64 st] w fun e w'=>e=.returned (.int .i64 (Mm m f t st))/\∃x',KD B w' s x' (Iw m f t st)/\Ch B w w':=by
 have hS:=h.sR;have Nb:=h.ok.sl;have yL:=h.ok.len;by_cases hc:Mm m f t st=0
 ·have hr:0<=f/\f<=t/\t<=m.S.length/\BL st=true:=by
   unfold Mm at hc;split at hc
   ·cases hc
   ·split at hc
    ·exact ⟨AD,AD,AD,by assumption⟩
    ·cases hc
  obtain ⟨r1,r2,r3,r4⟩:=hr;have eM:Iw m f t st={m with S:=GQ m.S f t st,ld:=m.ld+((BC m.b t-BC m.b f+1:Nat):Int)}:=by unfold Iw;rw[if_pos hc]
  have gS:Y_ (BM m.S) f t st=(BM (GQ m.S f t st),0):=by
   unfold Y_;rw[hS,if_neg AD,if_pos r4]
  have dM:=AC (Lu.set (BM m.S) _ f t st 0 gS h.asks hf ht Aw);have l2:=Vh (st:=st) r1 r2 r3;have QO:Sw m.b (GQ m.S f t st):=⟨h.ok.O6,by rw[l2];exact Nb,ce h.ok.sg r4,yL⟩;have rN:=AC (fun (w':World) (u:Value) (q:FH w' u (BM (GQ m.S f t st)))=>O7 u (BM (GQ m.S f t st)) w' q QO.W9 (by have:=QO.runs;omega) (by rw[QO.T_,l2];omega));obtain ⟨fn,rfl⟩:=Int.eq_ofNat_of_zero_le r1;obtain ⟨tn,rfl⟩:=Int.eq_ofNat_of_zero_le (show 0<=t by omega);have uT:=Rz (b:=m.b) r1 r2 AD;have mE:=AC (fun (w':World) (x':ES) (q:Dr B w' s x' m m.b (GQ m.S fn tn st) (Co (Bu m.wd) m.b m.S) (Be m.b m.F))=>GC fn (BC m.b fn) w' q AD rfl);have UT:=AC (fun (w':World) (x':ES) (q:Dr B w' s x' m m.b (GQ m.S fn tn st) (Co (Bu m.wd) m.b m.S) (Be m.b m.F))=>GC tn (BC m.b tn) w' q AD rfl);have OT:=h.nf;have HR:=AC (fun (w':World) (x':ES) (q:Dr B w' s x' m m.b (GQ m.S fn tn st) (Co (Bu m.wd) m.b m.S) (Be m.b m.F)) (kw:RM B w')=>(by
   have q2:=MP (BC m.b fn) (BC m.b tn-BC m.b fn+1) w' q QO kw.nX q.base h.ok.kL (by have:=h.ok.ld;omega) AD (Cc _ _ _);rw[Sb r1 r2 AD l2 (fun p hp=>ix r1 r2 r3 hp),show ((BC m.b fn:Nat):Int)+((BC m.b tn-BC m.b fn+1:Nat):Int)-1=(BC m.b tn:Int) by omega]at q2;exact q2:Calls prog 69 #[.pointer (some ⟨s,0,none⟩),.int .i64 (BC m.b fn:Int),.int .i64 (BC m.b tn:Int)] w' fun e Bg=>e=.returned (.tuple #[])/\MY B w' s x' {m with ld:=m.ld+((BC m.b tn-BC m.b fn+1:Nat):Int)} m.b (GQ m.S fn tn st) (Co (Bu m.wd) m.b (GQ m.S fn tn st)) (Be m.b m.F) Bg))
  have Q5:Hid (Sc.Ok {m with S:=GQ m.S fn tn st,ld:=m.ld+((BC m.b tn-BC m.b fn+1:Nat):Int)}):=AC ⟨h.ok.O6,QO.sl,QO.sg,yL,h.ok.fg,h.ok.fl,h.ok.most,h.ok.wd,by have:=h.ok.ld;show 0<=m.ld+_/\m.ld+_<=1000000000;omega⟩;rw[hc,eM];have HP:=AC h.p;have YK:=AC hg;have Ag:=h.p.CT;simp only[KF]at Ag;have Bx:=AE Ag;clear h hg hc eM gS QO l2 r1 r2 r3 r4 hS Nb yL OT;go_enter func31,ntmps31;go_wp2_with fail;refine dM.out.mono ?_;rintro e w1 ⟨u,rfl,AJ,q1⟩;have nY:=AC q1;obtain ⟨A1,c1,rfl,-⟩:=q1.1;generalize (BM (GQ m.S fn tn st)).length=rl at *;clear q1;have AG:=AJ;have AH:=AB AJ Ag;(try clear Bx);go_wp2_with fail;refine (rN w1 _ nY.out.1).mono ?_;rintro e w2 ⟨u2,rfl,AL,o2⟩;have AR:=AG.trans AL;have AU:=AB AL AH;obtain ⟨BS,Dj⟩:=DX AU;have Ox:=AC (And.intro ((HP.out.later AR).NG (nY.out.later AL) (ON.rt o2)) ((Ch.of AR).trans (Ch.NG (HP.out.later AR) (.slice A1 rl c1) u2)));obtain ⟨A2,c2,rfl,-⟩:=(ON.rt o2).form;generalize (Cu (BM (GQ m.S fn tn st))).length=el at *;have yP:=AC (YK.out.ch Ox.out.2);clear o2;go_wp2_with fail;generalize (w2.setCell ⟨s,2,none⟩ (.slice A1 rl c1)).setCell ⟨s,3,none⟩ (.slice A2 el c2)=w3 at *;refine (mE w3 _ Ox.out.1).mono ?_;rintro e w4 ⟨rfl,b4⟩;have H4:=AC b4;clear b4;go_wp2_with fail;refine (UT w4 _ (Ox.out.1.later H4.out)).mono ?_;rintro e w5 ⟨rfl,b5⟩;have H5:=AC (H4.out.trans b5);clear b5;go_wp2_with fail;refine (HR w5 _ (Ox.out.1.later H5.out) (yP.out.later H5.out)).mono ?_;rintro e w6 ⟨rfl,K',q1,q2⟩;have HZ:=AC (And.intro q1 (Ox.out.2.trans ((Ch.of H5.out).trans q2)));clear q1 q2;go_wp2_with fail;go_ret;exact ⟨rfl,_,⟨Q5.out,HZ.out.1.as rfl rfl rfl rfl⟩,HZ.out.2⟩
 ·have gS:Y_ (BM m.S) f t st=([],Mm m f t st):=by
   unfold Mm at hc ⊢;unfold Y_;rw[hS];split
   ·rfl
   ·rename_i h1
    rw[if_neg h1]at hc;split
    ·rename_i h2
     rw[if_pos h2]at hc;exact absurd rfl hc
    ·rfl
  have eM:Iw m f t st=m:=by unfold Iw;rw[if_neg hc]
  have dM:=AC (Lu.set (BM m.S) _ f t st _ gS h.asks hf ht Aw);rw[eM];have HS:=AC h;have Ag:=h.p.CT;simp only[KF]at Ag;have Bx:=AE Ag;have d0:(Mm m f t st != 0)=true:=by simpa using hc
  clear h hg hc eM gS hS Nb yL;generalize Mm m f t st=c at *;go_enter func31,ntmps31;go_wp2_with fail;refine dM.out.mono ?_;rintro e w1 ⟨u,rfl,AJ,q1⟩;have HA:=AC AJ;obtain ⟨A1,c1,rfl,-⟩:=q1.1;clear q1 AJ;go_wp2_with fail;go_ret;exact ⟨rfl,x,HS.out.later HA.out,Ch.of HA.out⟩
def IX(m:Sc)(n:Int):Sc:=if Fo n=m.wd then m else {m with wd:=Fo n,ld:=m.ld+(((Ap 0 m.b).length+1:Nat):Int)}
theorem Wf(n:Int)(w:World)(h:KD B w s x m)(hg:RM B w)(S6:m.ld<=900000000):
 Calls prog 29 #[.pointer (some ⟨s,0,none⟩),.int .i64 n] w fun e w'=>e=.returned (.tuple #[])/\∃x',KD B w' s x' (IX m n)/\Ch B w w':=by
 obtain ⟨c,hc⟩:=BZ (Fo n);have HW:=AC (fun w'=>Sq n c hc w');have yk:=aD n;rw[hc]at yk;have HS:=AC h;have HG:=AC hg;have Ag:=h.p.CT;simp only[KF]at Ag;have Bx:=AE Ag;by_cases he:c=m.wd
 ·have eM:IX m n=m:=by unfold IX;rw[if_pos (by rw[hc];exact he)]
  rw[eM];rw[<-he]at Ag Bx;have d0:(c == c)=true:=Ar;clear h hg hc eM yk he;go_enter func29,ntmps29;go_wp2_with fail;apply AP (11) [⟨4,8,.int .i64 c,false,fun v _=>v=.int .i64 c⟩] [] rfl AY AY AY Ar AY
  case hstab=>
   intro c hc;rcases Cv hc with rfl
   ·intro v x y BE hv;exact hv
  case hfix=>
   intro c hc;rcases Cv hc with rfl
   ·exact .inr fun u x h=>h
  case hlex=>
   intro U hU;have q0:=AE (AB hU Ag);refine Hj ?_
   repeat (go_big_quiet_step (first|fail))
   exact wpQuiet_nil rfl
  case hstep=>
   intro j hj o ho;have CQ:j=0:=by simp at hj;omega
   rcases CQ with rfl
   ·cases ho;refine ⟨rfl,fun g x hx hp=>?_⟩;clear hp;refine Bp ?_;refine AO ?_ (At (((HW x).mono fun e w' ⟨h1,h2⟩=>⟨h1,by rw[h2];exact AA.refl _⟩)));simp[go_sem,execOp]
  case htail=>
   intro g u Aw Az;have AJ:AA w (later u):=⟨u,rfl⟩;generalize later u=w1 at *;clear u;clear Aw Az;refine DH ?_;have AG:=AJ;have AH:=AB AJ Ag;obtain ⟨B7,Eg⟩:=DX AH;(try clear Bx);go_wp2_with fail;exact bodyPost_ret (v:=.tuple #[]) (by simp[results,results29,go_sem]) rfl ⟨rfl,x,HS.out.later AG,Ch.of AG⟩
 ·have eM:IX m n={m with wd:=c,ld:=m.ld+(((Ap 0 m.b).length+1:Nat):Int)}:=by unfold IX;rw[hc,if_neg he]
  have hn9:=h.nf;have OT:x.t.nf=(Ap 0 m.b).length:=by rw[<-EZ];unfold J_;rw[h.p.tb]
  have ah:=AC (fun (w':World) (q:E4 w' x.tg x.g m.most x.t)=>FI x.tg x.g m.most x.t w' q AD);rw[OT]at ah;have Ca:G_ (Co (Bu m.wd) m.b m.S) (Fq (Bu c) m.b m.S 0 ((Ap 0 m.b).length+1)) 0 ((Ap 0 m.b).length+1)=Co (Bu c) m.b m.S:=by
   unfold G_;rw[Va,List.take_zero,List.nil_append,List.drop_of_length_le (by rw[Cc];omega),List.append_nil]
  have HR:=AC (fun (w':World) (q:Dr B w' s x {m with wd:=c} m.b m.S (Co (Bu m.wd) m.b m.S) (Be m.b m.F)) (kw:RM B w')=>(by
   have q2:=MP 0 ((Ap 0 m.b).length+1) w' q h.ok.t kw.nX q.base (show BO c from ⟨AD,AD⟩) (by have:=h.ok.ld;show 0<=m.ld/\m.ld<=_;omega) AD (Cc _ _ _);rw[show ((0:Nat):Int)+(((Ap 0 m.b).length+1:Nat):Int)-1=((Ap 0 m.b).length:Nat) by omega]at q2;have q3:(G_ (Co (Bu m.wd) m.b m.S) (Fq (Bu c) m.b m.S 0 ((Ap 0 m.b).length+1)) 0 ((Ap 0 m.b).length+1))=_:=Ca;rw[show (Sc.mk m.b m.S m.F m.most c m.ld).wd=c from rfl]at q2;rw[q3]at q2;exact q2:Calls prog 69 #[.pointer (some ⟨s,0,none⟩),.int .i64 0,.int .i64 ((Ap 0 m.b).length:Nat)] w' fun e Bg=>e=.returned (.tuple #[])/\MY B w' s x {m with wd:=c,ld:=m.ld+(((Ap 0 m.b).length+1:Nat):Int)} m.b m.S (Co (Bu c) m.b m.S) (Be m.b m.F) Bg))
  have Q5:Hid (Sc.Ok {m with wd:=c,ld:=m.ld+(((Ap 0 m.b).length+1:Nat):Int)}):=AC ⟨h.ok.O6,h.ok.sl,h.ok.sg,h.ok.len,h.ok.fg,h.ok.fl,h.ok.most,yk,by have:=h.ok.ld;show 0<=m.ld+_/\m.ld+_<=1000000000;omega⟩;rw[eM];have d0:(c == m.wd)=false:=by simpa using he
  clear h hg hc eM yk he OT Ca;generalize (Ap 0 m.b).length=N at *;go_enter func29,ntmps29;go_wp2_with fail;apply AP (11) [⟨4,8,.int .i64 c,false,fun v _=>v=.int .i64 c⟩] [] rfl AY AY AY Ar AY
  case hstab=>
   intro c hc;rcases Cv hc with rfl
   ·intro v x y BE hv;exact hv
  case hfix=>
   intro c hc;rcases Cv hc with rfl
   ·exact .inr fun u x h=>h
  case hlex=>
   intro U hU;have q0:=AE (AB hU Ag);refine Hj ?_
   repeat (go_big_quiet_step (first|fail))
   exact wpQuiet_nil rfl
  case hstep=>
   intro j hj o ho;have CQ:j=0:=by simp at hj;omega
   rcases CQ with rfl
   ·cases ho;refine ⟨rfl,fun g x hx hp=>?_⟩;clear hp;refine Bp ?_;refine AO ?_ (At (((HW x).mono fun e w' ⟨h1,h2⟩=>⟨h1,by rw[h2];exact AA.refl _⟩)));simp[go_sem,execOp]
  case htail=>
   intro g u Aw Az;have AJ:AA w (later u):=⟨u,rfl⟩;generalize later u=w1 at *;clear u;clear Aw Az;refine DH ?_;have AG:=AJ;have AH:=AB AJ Ag;obtain ⟨B7,Eg⟩:=DX AH;(try clear Bx);have sj:=HS.out.p.later AG;have Ox:Hid (Dr B (w1.setCell ⟨s,5,none⟩ (.int .i64 c)) s x {m with wd:=c} m.b m.S (Co (Bu m.wd) m.b m.S) (Be m.b m.F)):=AC (sj.store (x':=x) (m':={m with wd:=c}) (by simp[KF]) ⟨rfl,rfl,rfl,rfl,rfl,rfl⟩ sj.runs sj.ends sj.Hl);have Hw:Hid (Ch B w (w1.setCell ⟨s,5,none⟩ (.int .i64 c))):=AC (AZ.setCell (AZ.of AG) HS.out.p.self _);have AU:=Ox.out.CT;simp only[KF]at AU;clear sj;go_wp2_with fail;refine (HW _).mono ?_;rintro e w' ⟨rfl,rfl⟩;go_wp2_with fail;generalize w1.setCell ⟨s,5,none⟩ (.int .i64 c)=w2 at *;have BS:=AE AU;clear B7 Eg;go_wp2_with fail;refine (ah w2 Ox.out.tx).mono ?_;rintro e w3 ⟨rfl,b3⟩;have H3:=AC b3;clear b3 BS;go_wp2_with fail;refine (HR w3 (Ox.out.later H3.out) ((HG.out.ch Hw.out).later H3.out)).mono ?_;rintro e w4 ⟨rfl,K',q1,q2⟩;have HZ:=AC (And.intro q1 (Hw.out.trans ((Ch.of H3.out).trans q2)));clear q1 q2;go_wp2_with fail;exact bodyPost_end (v:=.tuple #[]) (by simp[results,results29,go_sem]) rfl ⟨rfl,_,⟨Q5.out,HZ.out.1⟩,HZ.out.2⟩
end
section
structure DV where
 vb:Value
 vs:Value
 vf:Value
def dC(v:DV)(m:Sc):Array Value:= #[v.vb,v.vs,v.vf,.int .i64 m.most,.int .i64 m.wd]
structure J9(w:World)(d:Nat)(v:DV)(m:Sc):Prop where
 CT:w.heap[d]?=some (.cells (dC v m) 44)
 b:RT .u8 5 w v.vb m.b
 s:RT .i64 3 w v.vs m.S
 f:QT w v.vf m.F
theorem oT:¬Oi 44:=by unfold Oi;decide
theorem J9.later{w w':World}{d:Nat}{v:DV}{m:Sc}(h:J9 w d v m)(a:AA w w'):J9 w' d v m:=⟨AB a h.CT,h.b.later a,h.s.later a,h.f.later a⟩
theorem J9.ch{B:Nat}{w w':World}{d:Nat}{v:DV}{m:Sc}(h:J9 w d v m)(c:Ch B w w'):J9 w' d v m:=⟨c.own h.CT oT,h.b.ch c Jf,h.s.ch c Js,h.f.ch c⟩
theorem J9.ld{w:World}{d:Nat}{v:DV}{m:Sc}(h:J9 w d v m)(n:Int):J9 w d v {m with ld:=n}:=⟨h.CT,h.b,h.s,h.f⟩
theorem Se(n c:Int)(hc:Fo n=c)(w:World):Calls prog 40 #[.int .i64 n] w fun e w'=>e=.returned (.int .i64 c)/\w=w':=by
 unfold Fo at hc;go_enter func40,ntmps40;by_cases h1:n<1
 ·rw[if_pos h1]at hc;subst hc;go_wp2_with fail;go_ret;exact ⟨rfl,rfl⟩
 ·rw[if_neg h1]at hc;by_cases h2:4096<n
  ·rw[if_pos h2]at hc;subst hc;go_wp2_with fail;go_ret;exact ⟨rfl,rfl⟩
  ·rw[if_neg h2]at hc;subst hc;go_wp2_with fail;go_ret;exact ⟨rfl,rfl⟩
section
set_option maxRecDepth 100000
end
section
set_option maxRecDepth 100000
set_option maxHeartbeats 1600000
theorem ZG{w:World}{v:Value}{l:List Int}(h:Lr w v l)(lo n:Nat)(h2:lo+n<=l.length):∃A cap,Lr w (.slice A n cap) ((l.drop lo).take n)/\
 ∀w',(Instr.sliceAt 22 v (some (.int .i64 (lo:Int))) (some (.int .i64 ((lo+n:Nat):Int))) none).run prog w'=.ok (.slice A n cap) w':=by
 obtain ⟨A,cap,rfl,h3,h4⟩:=h;have hl:((l.drop lo).take n).length=n:=by rw[length_take,length_drop];omega
 refine ⟨if cap=lo then A else A.map (fun x=>x.add lo),cap-lo,⟨_,_,by rw[hl],by rw[hl];omega,fun h0=>?_⟩,fun w'=>?_⟩
 ·rw[hl]at h0;obtain ⟨b,off,rfl,hb,hc⟩:=h4 AD;rw[if_neg AD];refine ⟨b,off+lo,by rw[Option.map_some,Db],hb,fun j hj=>?_⟩;rw[hl]at hj;rw[Nat.add_assoc,hc (lo+j) AD,List.getElem_take,List.getElem_drop]
 ·rw[run_sliceAt_slice w' _ _ _ _ _ underlying22,run_slice_lh w' _ A l.length cap underlying22 .i64 .i64 (lo:Int) ((lo+n:Nat):Int) AD AD AD];have hz:∀w,(Go.sizeOf (prog.elem 22)).run prog w=.ok 1 w:=fun w=>by simp[go_sem]
  rw[hz];simp[Result.andThen,sliced]
  try omega
end
end
section
variable{x:ES}{H:List Bool}{S b:List Int}{B s:Nat}{L l:Qs}{m:Sc}{hv:Value}{w w':World}
def KL(m:Sc)(f t:Int):Int:=QA (f,t) m.F m.b.length
def Ft(m:Sc)(f t:Int):Sc:=if KL m f t=0 then {m with F:=Ia (f,t) m.F m.b.length} else m
def C4(l:Qs)(c:Int)(v:Value)(w:World):Prop:=∃u,v=.tuple #[u,.int .i64 c]/\QT w u l
theorem C4.later{c:Int}{v:Value}(a:AA w w')(h:C4 l c v w):C4 l c v w':=by
 obtain ⟨u,h1,h2⟩:=h;exact ⟨u,h1,h2.later a⟩
theorem Ir(w:World)(h:Dr B w s x m b S L H):Calls prog 63 #[.pointer (some ⟨x.tg,0,none⟩)] w fun e w'=>e=.returned (.int .i64 (b.length:Nat))/\AA w w':=by
 have:=Kb (.pointer (some ⟨x.tg,0,none⟩)) x.t _ w h.tx.tl
 rwa [<-Tr.Bv,h.tb]at this
theorem ZL(f t:Int)(w:World)(h:KD B w s x m)(Ww:m.F.length<100):
 Calls prog 32 #[.pointer (some ⟨s,0,none⟩),.agg #[.int .i64 f,.int .i64 t]] w fun e w'=>e=.returned (.int .i64 (KL m f t))/\∃x',KD B w' s x' (Ft m f t)/\Ch B w w':=by
 have ah:=AC (fun (w':World) (a:AA w w')=>Ir w' (h.p.later a));have HAdd:=AC (fun (w':World) (a:AA w w')=>(by
  refine (gZ x.v3 m.F f t m.b.length w' (h.p.Hl.1.later a) AD).mono ?_;rintro e Bg ⟨u,rfl,b,q⟩;exact ⟨_,rfl,b,u,rfl,q⟩:Calls prog 85 #[x.v3,.agg #[.int .i64 f,.int .i64 t],.int .i64 ((m.b.length:Nat):Int)] w' fun e Bg=>∃v,e=.returned v/\AA w' Bg/\C4 (Ia (f,t) m.F m.b.length) (KL m f t) v Bg))
 have ZN:=W6 (f,t) m.F m.b.length;have HF:=AC (fun (w':World) (u:Value) (q:KD B w' s x m) (hu:QT w' u (Ia (f,t) m.F m.b.length))=>Ng u (Ia (f,t) m.F m.b.length) w' q.p hu AD AD h.ok.len);have Q5:Hid (KL m f t=0->Sc.Ok {m with F:=Ia (f,t) m.F m.b.length}):=AC (fun hc=>⟨h.ok.O6,h.ok.sl,h.ok.sg,h.ok.len,cT hc,by show (Ia (f,t) m.F m.b.length).length<=100;omega,h.ok.most,h.ok.wd,h.ok.ld⟩);have HS:=AC h;have Ag:=h.p.CT;simp only[KF]at Ag;have ly:=AA.refl w;obtain ⟨c,hc⟩:=BZ (KL m f t);rw[hc]at HAdd Q5 ⊢;have qQ:c=0->Ft m f t={m with F:=Ia (f,t) m.F m.b.length}:=fun q=>by unfold Ft;rw[hc,if_pos q]
 have qF:c≠0->Ft m f t=m:=fun q=>by unfold Ft;rw[hc,if_neg q]
 have HM:=AC (And.intro qQ qF);clear h Ww ZN hc qQ qF;generalize Ia (f,t) m.F m.b.length=F2 at *;generalize m.b.length=n at *;go_enter func32,ntmps32;go_wp2_with fail;refine JL w (w.heap.size) (.cells #[.int .i64 f,.int .i64 t] 69) ?_;intro w1 AJ Aq;have AG:=AJ;have AH:=AB AJ Ag;apply Wild.AP (16) [⟨9,19,.int .i64 (n:Int),false,fun v _=>v=.int .i64 (n:Int)⟩,⟨10,20,undef,true,C4 F2 c⟩,⟨11,9,undef,true,C4 F2 c⟩,⟨12,21,undef,true,fun u w=>QT w u F2⟩,⟨13,22,.int .i64 c,false,fun v _=>v=.int .i64 c⟩,⟨14,5,undef,true,fun u w=>QT w u F2⟩] [⟨10,20,C4 F2 c⟩,⟨11,9,C4 F2 c⟩,⟨12,21,fun u w=>QT w u F2⟩,⟨14,5,fun u w=>QT w u F2⟩] rfl AY AY AY Ar AY
 case hstab=>
  intro c hc;rcases Cv hc with rfl|rfl|rfl|rfl|rfl|rfl
  ·intro v x y BE hv;exact hv
  ·intro v x y BE hv;exact (fun h k=>C4.later h k) BE hv
  ·intro v x y BE hv;exact (fun h k=>C4.later h k) BE hv
  ·intro v x y BE hv;exact (fun h k=>QT.later k h) BE hv
  ·intro v x y BE hv;exact hv
  ·intro v x y BE hv;exact (fun h k=>QT.later k h) BE hv
 case hfix=>
  intro c hc;rcases Cv hc with rfl|rfl|rfl|rfl|rfl|rfl
  ·exact .inr fun u x h=>h
  ·exact .inl rfl
  ·exact .inl rfl
  ·exact .inl rfl
  ·exact .inr fun u x h=>h
  ·exact .inl rfl
 case hlex=>
  intro U hU;have q0:=AE (AB hU AH);have q1:=AE (AB hU Aq);refine Hj ?_
  repeat (go_big_quiet_step (fail))
  exact wpQuiet_nil rfl
 case hstep=>
  intro j hj o ho;have CQ:j=0\/j=1\/j=2\/j=3\/j=4\/j=5:=by simp at hj;omega
  rcases CQ with rfl|rfl|rfl|rfl|rfl|rfl
  ·cases ho;refine ⟨rfl,fun g x hx hp=>?_⟩;clear hp;refine Bp ?_;refine AO ?_ (Wild.At (ah x (AG.trans hx)));simp[go_sem,execOp]
  ·cases ho;refine ⟨rfl,fun g x hx hp=>?_⟩;clear hp;refine Bp ?_;refine AO ?_ (Wild.Ai (HAdd x (AG.trans hx)));simp[go_sem,execOp]
  ·cases ho;refine ⟨rfl,fun g x hx hp=>?_⟩;have xi:(C4 F2 c) (g 10) x:=hp _ (mem_of_getElem? (i:=0) rfl) (List.contains_iff_mem.1 AY);clear hp;refine Bp ?_;refine Wild.Dv (v:=g 10) ?_ xi;simp[go_sem,execOp]
  ·cases ho;refine ⟨rfl,fun g x hx hp=>?_⟩;have p9:(C4 F2 c) (g 11) x:=hp _ (mem_of_getElem? (i:=1) rfl) (List.contains_iff_mem.1 AY);clear hp;refine Bp ?_
   (obtain ⟨vv,ev,rv⟩:=p9;refine Wild.Dv (v:=vv) ?_ rv;simp[go_sem,execOp,ev])
  ·cases ho;refine ⟨rfl,fun g x hx hp=>?_⟩;have p9:(C4 F2 c) (g 11) x:=hp _ (mem_of_getElem? (i:=1) rfl) (List.contains_iff_mem.1 AY);clear hp;refine Bp ?_
   (obtain ⟨vv,ev,rv⟩:=p9;refine Wild.Gx ?_;simp[go_sem,execOp,ev])
  ·cases ho;refine ⟨rfl,fun g x hx hp=>?_⟩;have p21:(fun u w=>QT w u F2) (g 12) x:=hp _ (mem_of_getElem? (i:=2) rfl) (List.contains_iff_mem.1 AY);clear hp;refine Bp ?_;refine Wild.Dv (v:=g 12) ?_ p21;simp[go_sem,execOp]
 case htail=>
  intro g u Aw Az;have AL:AA w1 (later u):=⟨u,rfl⟩;generalize later u=w2 at *;clear u Az;obtain ⟨jU,-⟩:=Aw _ (mem_of_getElem? (i:=0) rfl);(try dsimp only at jU)
  obtain ⟨qH,-⟩:=Aw _ (mem_of_getElem? (i:=1) rfl);(try dsimp only at qH)
  obtain ⟨kP,-⟩:=Aw _ (mem_of_getElem? (i:=2) rfl);(try dsimp only at kP)
  obtain ⟨PJ,-⟩:=Aw _ (mem_of_getElem? (i:=3) rfl);(try dsimp only at PJ)
  clear Aw;refine DH ?_;generalize g 10=v20 at *;generalize g 11=v9 at *;generalize g 12=v21 at *;generalize g 14=v5 at *;have AR:=AG.trans AL;have HU:Hid (QT w2 v5 F2):=AC PJ;obtain ⟨A1,c1,rfl,-⟩:=HU.out.1.form;have Mf:=AC AR;generalize F2.length=n2 at *;clear jU qH kP PJ;by_cases h0:c=0
  ·subst h0;have sE:=AC (HM.out.1 rfl);have Ve:=AC (Q5 rfl);go_wp2_with fail;refine (HF w2 _ (HS.out.later Mf.out) HU.out).mono ?_;rintro e w3 ⟨rfl,K',q1,q2⟩;have HZ:=AC (And.intro q1 ((Ch.of Mf.out).trans q2));clear q1 q2;go_wp2_with fail;go_ret;refine ⟨rfl,{x with K:=K',v3:=.slice A1 n2 c1},?_,HZ.out.2⟩;rw[sE.out];exact ⟨Ve.out,HZ.out.1⟩
  ·have d0:(c == 0)=false:=by simpa using h0
   go_wp2_with fail;go_ret;refine ⟨rfl,x,?_,Ch.of Mf.out⟩;rw[HM.out.2 h0];exact HS.out.later Mf.out
def QS(m:Sc)(y:Int):Int:=Ln m.F y
def KC(m:Sc)(y:Int):Sc:=if QS m y=0 then {m with F:=FW m.F y} else m
theorem S_{n:Int}:∀(A:Qs) (s:Int × Int) (B:Qs) (e:Int),BJ n e (A++s::B)=true->0<=e->BJ n e (A++B)=true
 |[],s,B,e,h,h0=>by
  rw[List.nil_append]at h ⊢;unfold BJ at h;rw[Bool.and_eq_true,decide_eq_true_iff]at h;exact P9 h.2 (fun hl=>by
   cases B with
   |nil=>simp at hl
   |cons r B=>
    have:=h.2
    unfold BJ at this;rw[Bool.and_eq_true,decide_eq_true_iff]at this;show e<=r.1
    omega)
 |r::A,s,B,e,h,h0=>by
  rw[List.cons_append]at h ⊢;unfold BJ at h ⊢;rw[Bool.and_eq_true,decide_eq_true_iff]at h ⊢;exact ⟨h.1,S_ A s B r.2 h.2 AD⟩
theorem Xo{n:Int}{y:Int}(hg:BJ n 0 l=true)(hc:Ln l y=0):BJ n 0 (FW l y)=true/\(FW l y).length<=l.length:=by
 have ha:l.any (Gg y)=true:=by
  unfold Ln at hc;split at hc
  ·assumption
  ·cases hc
 unfold FW;rw[if_pos ha];obtain ⟨s,hs,hp⟩:=List.any_eq_true.1 ha;have BN:l.findIdx (Gg y)<l.length:=List.findIdx_lt_length_of_exists ⟨s,hs,hp⟩;refine ⟨?_,by rw[length_append,length_take,length_drop];omega⟩;apply S_ _ (l[l.findIdx (Gg y)]) _ _ ?_ AD
 rw[<-List.drop_eq_getElem_cons BN,List.take_append_drop];exact hg
theorem Uc(y:Int)(w:World)(h:KD B w s x m):
 Calls prog 33 #[.pointer (some ⟨s,0,none⟩),.int .i64 y] w fun e w'=>e=.returned (.int .i64 (QS m y))/\∃x',KD B w' s x' (KC m y)/\Ch B w w':=by
 have Ww:=h.ok.fl;have ug:=AC (fA x.v3 m.F y w h.p.Hl.1 AD);have HF:=AC (fun (w':World) (u:Value) (q:KD B w' s x m) (hu:QT w' u (FW m.F y)) (hl:(FW m.F y).length<=900)=>Ng u (FW m.F y) w' q.p hu AD hl h.ok.len);have Q5:Hid (Ln m.F y=0->(FW m.F y).length<=900/\Sc.Ok {m with F:=FW m.F y}):=AC (fun hc=>by
  obtain ⟨q1,q2⟩:=Xo h.ok.fg hc;exact ⟨AD,h.ok.O6,h.ok.sl,h.ok.sg,h.ok.len,q1,by show (FW m.F y).length<=100;omega,h.ok.most,h.ok.wd,h.ok.ld⟩)
 have HS:=AC h;have Ag:=h.p.CT;simp only[KF]at Ag;have Bx:=AE Ag;obtain ⟨c,hc⟩:=BZ (QS m y);have D4:Ln m.F y=c:=hc;have qQ:c=0->KC m y={m with F:=FW m.F y}:=fun q=>by unfold KC;rw[hc,if_pos q]
 have qF:c≠0->KC m y=m:=fun q=>by unfold KC;rw[hc,if_neg q]
 have HM:=AC (And.intro qQ qF);unfold pg at ug;rw[D4]at ug Q5;rw[hc];clear h Ww hc D4 qQ qF;generalize FW m.F y=F2 at *;go_enter func33,ntmps33;go_wp2_with fail;refine ug.out.mono ?_;rintro e w2 ⟨u,rfl,b2,hu⟩;have HU:=AC hu;have Mf:=AC b2;obtain ⟨A1,c1,rfl,-⟩:=hu.1.form;generalize F2.length=n2 at *;clear hu b2;by_cases h0:c=0
 ·subst h0;have sE:=AC (HM.out.1 rfl);have Ve:=AC (Q5 rfl);go_wp2_with fail;refine (HF w2 _ (HS.out.later Mf.out) HU Ve.out.1).mono ?_;rintro e w3 ⟨rfl,K',q1,q2⟩;have HZ:=AC (And.intro q1 ((Ch.of Mf.out).trans q2));clear q1 q2;go_wp2_with fail;go_ret;refine ⟨rfl,{x with K:=K',v3:=.slice A1 n2 c1},?_,HZ.out.2⟩;rw[sE.out];exact ⟨Ve.out.2,HZ.out.1⟩
 ·have d0:(c == 0)=false:=by simpa using h0
  go_wp2_with fail;go_ret;refine ⟨rfl,x,?_,Ch.of Mf.out⟩;rw[HM.out.2 h0];exact HS.out.later Mf.out
def D_(b:List Int)(most width:Int):Sc:={b:=b,S:=replicate b.length 0,F:=[],most:=most,wd:=Fo width,ld:=(((Ap 0 b).length+1:Nat):Int)}
theorem Xk(n:Nat)(hn:n<=16777216):Cn [((n:Int),0)]=BM (replicate n 0):=by
 have h1:AM [((n:Int),0)]=replicate n 0:=by
  rw[Cr,GK,List.append_nil];unfold DY;rcases Nat.eq_zero_or_pos n with h|h
  ·subst h;rw[if_neg (by decide)];rfl
  ·rw[if_pos (by unfold CY;rw[show BL 0=true from by decide,Bool.and_true];exact decide_eq_true ⟨AD,AD⟩),Int.toNat_natCast]
 unfold Cn;rw[GY (by rw[h1,length_replicate];exact hn),h1]
theorem eG(b:List Int):Be b []=replicate ((Ap 0 b).length+1) false:=by
 refine KI (by rw[BT,length_replicate]) (fun k hk=>?_);rw[BT]at hk;rw[Hc b [] AD,List.getD_eq_getElem?_getD,List.getElem?_replicate,if_pos hk];rfl
theorem mT{most width:Int}(hb:BX b)(hl:b.length<=900)(hm:(b.length:Int)<=most/\most<=16777216):(D_ b most width).Ok:=by
 have OT:(Ap 0 b).length<=900:=le_trans (Dg b 0) hl;exact ⟨hb,length_replicate,fun s hs=>by rw[List.eq_of_mem_replicate hs];decide,hl,rfl,zero_le _,hm,aD width,⟨Int.natCast_nonneg _,by show (((Ap 0 b).length+1:Nat):Int)<=_;omega⟩⟩
theorem XK.stays{x':ES}{m':Sc}{hv':Value}(h:XK w s x m b S hv)(st:AZ (fun k=>k=s) w w')(hb:w'.heap[s]?=some (.cells (rA x' m' hv') 81))(e:x'.tg=x.tg/\x'.g=x.g/\x'.t=x.t/\x'.v1=x.v1/\x'.v2=x.v2/\m'.most=m.most):XK w' s x' m' b S hv':=by
 obtain ⟨e1,e2,e3,e4,e5,e6⟩:=e;have c:Ch 0 w w':=AZ.wide st (fun k _ hk=>by
  obtain rfl:k=s:=hk
  exact ⟨zero_le _,_,_,_,h.CT,.inl rfl⟩)
 obtain ⟨ht,rv,h2,h3⟩:=h.tx;have hg:x.g≠s:=fun q=>by
  rw[q,h.CT]at h2;cases h2
 refine ⟨hb,?_,by rw[e3];exact h.tok,by rw[e3];exact h.tb,by rw[e4];exact h.runs.ch c,by rw[e5];exact h.ends.ch c Js⟩;rw[e1,e2,e3,e6];exact h.tx.zB c (st.block _ (As h2) hg)
theorem XK.ldS(h:XK w s x m b S hv)(n:Int):XK (w.setCell ⟨s,7,none⟩ (.int .i64 n)) s x {m with ld:=n} b S hv:=
 h.stays ((AZ.refl (fun k=>k=s) w).setCell (b:=s) rfl _) (BI h.CT (by simp[rA])) ⟨rfl,rfl,rfl,rfl,rfl,rfl⟩
theorem XK.fin{C:Nat}{hg:Nat}{K:List Nat}(h:XK w s x m b S hv)(hB:B<=s)(hgB:B<=x.g)(hh:Gb C w hg K L H)(hC:B<=C)(hF:QT w x.v3 m.F):Dr B (w.setCell ⟨s,6,none⟩ (.pointer (some ⟨hg,0,none⟩))) s {x with hg:=hg,K:=K} m b S L H:=by
 have st:AZ (fun k=>k=s) w (w.setCell ⟨s,6,none⟩ (.pointer (some ⟨hg,0,none⟩))):=(AZ.refl (fun k=>k=s) w).setCell (b:=s) rfl _;have q:=h.stays (x':={x with hg:=hg,K:=K}) (m':=m) (hv':=.pointer (some ⟨hg,0,none⟩)) st (BI h.CT (by simp[rA])) ⟨rfl,rfl,rfl,rfl,rfl,rfl⟩;have c:Ch B w (w.setCell ⟨s,6,none⟩ (.pointer (some ⟨hg,0,none⟩))):=AZ.wide st (fun k _ hk=>by
  obtain rfl:k=s:=hk
  exact ⟨hB,_,_,_,h.CT,.inl rfl⟩)
 exact ⟨q.CT,q.tx,q.tok,q.tb,q.runs,q.ends,hF.ch c,(hh.mono hC).off st (fun k hk=>by
  obtain rfl:k=s:=hk
  exact ⟨_,_,_,h.CT,.inl rfl⟩),hB,hgB⟩
theorem QE(v:Value)(b:List Int)(most width:Int)(w:World)(hv:RN .u8 w v b)(hb:BX b)(hl:b.length<=900)(hm:(b.length:Int)<=most)(Dk:0<=most/\most<=16777216)(hg:Dh w):
 Calls prog 8 #[v,.int .i64 most,.int .i64 width] w fun e w'=>∃s x,e=.returned (.tuple #[.pointer (some ⟨s,0,none⟩),.int .i64 0])/\AA w w'/\KD w.heap.size w' s x (D_ b most width):=by
 have HT:=AC (gM v b most w hv hb hm Dk AD);have IO:=mT (width:=width) hb hl ⟨hm,Dk.2⟩;have ht:=nS b;have hto:=pG hb (show b.length<=60000 by omega);have OT:(Ap 0 b).length<=900:=le_trans (Dg b 0) hl;have htn:(Od b).nf=(Ap 0 b).length:=by rw[<-EZ];unfold J_;rw[ht]
 have HTi:=AC (fun (w':World) (u:Value) (q:Mc w' u [((b.length:Int),0)])=>Lu.tidy [((b.length:Int),0)] _ (Xk b.length AD) (⟨q,fun r hr=>by rw[List.mem_singleton.1 hr];exact ⟨⟨by show _<=(b.length:Int);omega,by show (b.length:Int)<=_;omega⟩,by show (-9223372036854775808:Int)<=0;omega,by show (0:Int)<=_;omega⟩,Ar⟩:Cf w' u _));have HO:=AC (fun (w':World) (u:Value) (q:FH w' u (BM (replicate b.length 0)))=>O7 u (BM (replicate b.length 0)) w' q IO.t.W9 (by have:=IO.t.runs;have e:(D_ b most width).S=replicate b.length 0:=rfl;rw[e]at this;omega) (by rw[show AM (BM (replicate b.length 0))=replicate b.length 0 from IO.t.T_,length_replicate];omega));have HW:=AC (fun w'=>Sq width (Fo width) rfl w');have HLi:=AC (fun (w':World) (tg g:Nat) (q:E4 w' tg g most (Od b))=>(by
  have:=FI tg g most (Od b) w' q AD
  rwa [htn]at this:Calls prog 23 #[.pointer (some ⟨tg,0,none⟩)] w' fun e Bg=>e=.returned (.int .i64 (((Ap 0 b).length+1:Nat):Int))/\AA w' Bg))
 have zC:=AC (fun (w':World) (s:Nat) (x:ES) (q:XK w' s x {D_ b most width with ld:=0} b (replicate b.length 0) (.pointer none)) (kw:Dh w')=>(by
  have:=Pm 0 ((Ap 0 b).length+1) w' q IO.t kw IO.kL (by show (0:Int)<=0/\(0:Int)<=_;omega) AD
  rw[show ((0:Nat):Int)+(((Ap 0 b).length+1:Nat):Int)-1=((Ap 0 b).length:Nat) by omega,show ({D_ b most width with ld:=0}:Sc).ld+(((Ap 0 b).length+1:Nat):Int)=(((Ap 0 b).length+1:Nat):Int) from Int.zero_add _]at this;exact this:Calls prog 39 #[.pointer (some ⟨s,0,none⟩),.int .i64 0,.int .i64 ((Ap 0 b).length:Nat)] w' fun e Bg=>∃u w1,e=.returned u/\AA w' w1/\Bg=w1.setCell ⟨s,7,none⟩ (.int .i64 (((Ap 0 b).length+1:Nat):Int))/\OQ 61 Bg w'.heap.size u (Fq (Bu (Fo width)) b (replicate b.length 0) 0 ((Ap 0 b).length+1))))
 have hlp:=Va (Bu (Fo width)) b (replicate b.length 0);rw[hlp]at zC;have fV:=Nk IO.t (Fo width) (f:=0) (n:=(Ap 0 b).length+1) (by show 0+_<=(Ap 0 b).length+1;omega);have xW:(Co (Bu (Fo width)) b (replicate b.length 0)).any CF=false:=by
  rw[<-hlp,List.any_eq_false];exact fun r hr=>by rw[fV r hr];decide
 have HHN:=AC (fun (w':World) (C:Nat) (u:Value) (q:OQ 61 w' C u (Co (Bu (Fo width)) b (replicate b.length 0)))=>(by
  have:=br u _ C w' q (by rw[Cc];omega) xW
  rwa [Cc,<-eG]at this:Calls prog 38 #[u] w' fun e Bg=>∃hg K,e=.returned (.tuple #[.pointer (some ⟨hg,0,none⟩),.int .i64 0])/\AA w' Bg/\Gb w'.heap.size Bg hg K (Co (Bu (Fo width)) b (replicate b.length 0)) (Be b [])))
 have Q5:=AC IO;have YK:=AC hg;have zA:=AC (And.intro ht hto);have uT:(Co (Bu (Fo width)) b (replicate b.length 0)).length<=901:=by rw[Cc];omega
 obtain ⟨A0,Td,rfl,-⟩:=hv.form;clear hv hb hm IO ht hto htn hg hlp fV xW;obtain ⟨wd,Pu⟩:=BZ (Fo width);have EM:Hid (D_ b most width={b:=b,S:=replicate b.length 0,F:=[],most:=most,wd:=wd,ld:=(((Ap 0 b).length+1:Nat):Int)}):=AC (by unfold D_;rw[Pu]);rw[EM.out]at Q5 zC ⊢;rw[Pu]at HW zC HHN uT;clear Pu;go_enter func8,ntmps8;go_wp2_with fail;refine HT.out.mono ?_;rintro e w1 ⟨tg,g,rfl,AG,ci,wB,Az,tx1⟩;have HX1:=AC (And.intro ci (And.intro wB (And.intro Az tx1)));clear ci wB Az tx1;go_wp2_with fail;refine AQ (fun wS=>AA w1 wS/\wS.heap[w1.heap.size]?=some (.cells #[.int .i64 (b.length:Int),.int .i64 0] 76)) ⟨BQ,CG⟩ ?_;rintro w2 ⟨AL,AU⟩;have AR:=AG.trans AL;obtain ⟨BS,Dj,GV⟩:=GH AU;refine (HTi w2 _ (Ge.typed (Ge.one (B:=0) (r:=((b.length:Int),0)) (zero_le _) AU))).mono ?_;rintro e w3 ⟨u3,rfl,AX,q3⟩;have H3:=AC (And.intro (AR.trans AX) (And.intro (AL.trans AX) q3));obtain ⟨A3,c3,rfl,-⟩:=q3.1;generalize (BM (replicate b.length 0)).length=l3 at *;clear q3 AX AU BS Dj GV;go_wp2_with fail;refine (HO w3 _ H3.out.2.2.1).mono ?_;rintro e w4 ⟨u4,rfl,Ao,o4⟩;have H4:=AC (And.intro Ao (ON.rt o4));obtain ⟨A4,c4,rfl,-⟩:=(ON.rt o4).form;generalize (Cu (BM (replicate b.length 0))).length=l4 at *;clear o4 Ao;go_wp2_with fail;refine (HW w4).mono ?_;rintro e w' ⟨rfl,rfl⟩;have a45:AA w4 (w4.alloc (.cells #[.pointer (some ⟨tg,0,none⟩),.int .i64 most,.slice A3 l3 c3,.slice A4 l4 c4,.slice none 0 0,.int .i64 wd,.pointer none,.int .i64 0] 81)):=(AA.refl w4).alloc _;have a05:AA w (w4.alloc (.cells #[.pointer (some ⟨tg,0,none⟩),.int .i64 most,.slice A3 l3 c3,.slice A4 l4 c4,.slice none 0 0,.int .i64 wd,.pointer none,.int .i64 0] 81)):=(H3.out.1.trans H4.out.1).trans a45;have a15:AA w1 (w4.alloc (.cells #[.pointer (some ⟨tg,0,none⟩),.int .i64 most,.slice A3 l3 c3,.slice A4 l4 c4,.slice none 0 0,.int .i64 wd,.pointer none,.int .i64 0] 81)):=(H3.out.2.1.trans H4.out.1).trans a45;have hB5:XK (w4.alloc (.cells #[.pointer (some ⟨tg,0,none⟩),.int .i64 most,.slice A3 l3 c3,.slice A4 l4 c4,.slice none 0 0,.int .i64 wd,.pointer none,.int .i64 0] 81)) w4.heap.size {tg:=tg,g:=g,hg:=0,t:=Od b,K:=[],v1:=.slice A3 l3 c3,v2:=.slice A4 l4 c4,v3:=.slice none 0 0} {b:=b,S:=replicate b.length 0,F:=[],most:=most,wd:=wd,ld:=0} b (replicate b.length 0) (.pointer none):=⟨Ae rfl,HX1.out.2.2.2.later a15,zA.out.2,zA.out.1,H3.out.2.2.later (H4.out.1.trans a45),H4.out.2.later a45⟩;have H5:=AC (And.intro a05 (And.intro hB5 a15));have Oo:w.heap.size<=w4.heap.size:=(H3.out.1.trans H4.out.1).below.size;have HSZ:=AC Oo;clear a45 a05 a15 hB5 Oo;go_wp2_with fail;generalize w4.alloc (.cells #[.pointer (some ⟨tg,0,none⟩),.int .i64 most,.slice A3 l3 c3,.slice A4 l4 c4,.slice none 0 0,.int .i64 wd,.pointer none,.int .i64 0] 81)=w5 at *;generalize w4.heap.size=s at *;refine (HLi w5 tg g H5.out.2.1.tx).mono ?_;rintro e w6 ⟨rfl,b6⟩;have H6:=AC b6;clear b6;go_wp2_with fail;refine (zC w6 s _ (H5.out.2.1.later H6.out) (YK.out.later (H5.out.1.trans H6.out))).mono ?_;rintro e w8 ⟨u7,w7,rfl,b7,e8,o8⟩;have hB7:=(H5.out.2.1.later (H6.out.trans b7)).ldS (((Ap 0 b).length+1:Nat):Int);rw[<-e8]at hB7;have a8:AA w w8:=by
  rw[e8];exact (H5.out.1.trans (H6.out.trans b7)).setCell (p:=⟨s,7,none⟩) HSZ _
 have H8:=AC (And.intro a8 (And.intro hB7 o8));obtain ⟨A7,c7,rfl,-⟩:=(OQ.rq o8).form;generalize (Co (Bu wd) b (replicate b.length 0)).length=l7 at *;clear a8 hB7 o8 e8 b7;go_wp2_with fail;refine (HHN w8 _ _ H8.out.2.2).mono ?_;rintro e w9 ⟨hg,K,rfl,b9,hh⟩;have hs9:=H8.out.2.1.later b9;have Vg:=hs9.CT;simp only[rA]at Vg;obtain ⟨p_,qh⟩:=DX Vg;have M4:=hs9.fin (B:=w.heap.size) HSZ (by have:=HX1.out.1;exact this) hh H8.out.1.below.size (QT.void w9);have mw:=AC (And.intro ((H8.out.1.trans b9).setCell (p:=⟨s,6,none⟩) HSZ (.pointer (some ⟨hg,0,none⟩))) M4);clear b9 hh hs9 M4;go_wp2_with fail;refine bodyPost_ret (v:=.tuple #[.pointer (some ⟨s,0,none⟩),.int .i64 0]) (by simp[results,results8,go_sem]) rfl ⟨s,_,rfl,mw.out.1,Q5.out,mw.out.2⟩
end
end Go.Proofs.YtamhnffokoejjaaGreatDoor
