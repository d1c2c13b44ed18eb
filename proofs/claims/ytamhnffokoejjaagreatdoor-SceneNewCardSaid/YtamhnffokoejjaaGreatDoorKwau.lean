import Derived.Shelf.Abstract
import Derived.Test.YtamhnffokoejjaaGreatDoorKwat
import Derived.Test.YtamhnffokoejjaaGreatDoorKwaf
set_option linter.all false
set_option maxHeartbeats 3200000
set_option maxRecDepth 100000
namespace Go.Proofs.YtamhnffokoejjaaGreatDoor
open List(mem_of_getElem? length_append append_assoc take_append_drop length_set length_take mem_cons not_mem_nil)
open Go.Proofs.Tryz
open Go.RowKit
section
variable {B:Nat}
theorem Ss(p:Qs)(x:Int × Int):(p++[x]).length=p.length+1/\DL (p++[x])=DL p+x.1/\DG (p++[x])=DG p+x.2:=by
 rw[EC,EO];simp[DL,DG]
theorem Ze(ga gw gh:Nat)(a f t n R H n1 R1 H1:Int)(w:World)(h0:w.heap[ga]?=some (.cells #[.int .i64 a] 3))(h1:w.heap[gw]?=some (.cells #[.int .i64 0] 3))(h2:w.heap[gh]?=some (.cells #[.int .i64 n,.int .i64 R,.int .i64 H] 206))
 (e0:n+1=n1) (e1:R+f=R1) (e2:H+t=H1) (b0:0<=n1/\n1<=9000000000000) (b1:0<=R1/\R1<=9000000000000) (b2:0<=H1/\H1<=9000000000000) (hc:a<n1):
 Calls prog 209 #[.agg #[.int .i64 f,.int .i64 t],.pointer (some ⟨gh,0,none⟩),.pointer (some ⟨ga,0,none⟩),.pointer (some ⟨gw,0,none⟩)] w fun e w'=>e=.returned (.bool true)/\AA w w':=by
 have Ag:=h0;have MA:=h1;have TR:=h2;have HC:=AC (fun w=>Jd f t w);have HA:=AC (fun w=>Ml n R H 1 f t n1 R1 H1 w e0 e1 e2 b0 b1 b2);clear h0 h1 h2 e0 e1 e2 b0 b1 b2;go_enter func209,ntmps209;go_wp2_with fail;refine JL w (w.heap.size) (.cells #[.int .i64 f,.int .i64 t] 61) ?_;intro w1 AJ KN;have AG:=AJ;have AH:=AB AJ Ag;have Aq:=AB AJ MA;have DA:=AB AJ TR;have J5:=As AH;have Qk:=As Aq;have pd:=As KN;apply AP (5) [⟨2,9,.agg #[.int .i64 1,.int .i64 f,.int .i64 t],false,fun v _=>v=.agg #[.int .i64 1,.int .i64 f,.int .i64 t]⟩,⟨3,10,.agg #[.int .i64 n1,.int .i64 R1,.int .i64 H1],false,fun v _=>v=.agg #[.int .i64 n1,.int .i64 R1,.int .i64 H1]⟩,⟨4,6,undef,true,GZ (.cells #[.int .i64 0,.int .i64 0,.int .i64 0] 206)⟩] [⟨4,6,GZ (.cells #[.int .i64 0,.int .i64 0,.int .i64 0] 206)⟩] rfl AY AY AY Ar AY
 case hstab=>
  intro c hc;rcases Cv hc with rfl|rfl|rfl
  ·intro v x y BE hv;exact hv
  ·intro v x y BE hv;exact hv
  ·intro v x y BE hv;exact EI BE hv
 case hfix=>
  intro c hc;rcases Cv hc with rfl|rfl|rfl
  ·exact .inr fun u x h=>h
  ·exact .inr fun u x h=>h
  ·exact .inl rfl
 case hlex=>
  intro U hU;have q2:=AE (AB hU DA);have q3:=AE (AB hU KN);refine Hj ?_
  repeat (go_big_quiet_step (fail))
  exact wpQuiet_nil rfl
 case hstep=>
  intro j hj o ho;have CQ:j=0\/j=1\/j=2:=by simp at hj;omega
  rcases CQ with rfl|rfl|rfl
  ·cases ho;refine ⟨rfl,fun g x hx hp=>?_⟩;clear hp;refine Bp ?_;refine AO ?_ (At (HC x));simp[go_sem,execOp]
  ·cases ho;refine ⟨rfl,fun g x hx hp=>?_⟩;clear hp;refine Bp ?_;refine AO ?_ (At (HA x));simp[go_sem,execOp]
  ·cases ho;refine ⟨rfl,fun g x hx hp=>?_⟩;exact Ii (fun r x=>by simp[go_sem,execOp])
 case htail=>
  intro g u Aw Az;have AL:AA w1 (later u):=⟨u,rfl⟩;generalize later u=w2 at *;clear u;obtain ⟨⟨b6,e6,Pr⟩,Pf⟩:=Aw _ (mem_of_getElem? (i:=0) rfl);dsimp only at e6 Pf;have Pf:=Pf b6 (by rw[e6];rfl);clear Aw Az;refine DH ?_;rw[e6];clear e6;have AR:=AG.trans AL;have AU:=AB AL AH;have BH:=AB AL Aq;have BS:=AE AU;have Gl:=AE BH;obtain ⟨vA,xp⟩:=DX Pr;go_wp2_with fail
  go_quiet (fail)
  go_wp2_with fail;go_ret;exact ⟨rfl,BQ⟩
theorem dp(ga gw gh:Nat)(a f t n R H n1 R1 H1:Int)(w:World)(h0:w.heap[ga]?=some (.cells #[.int .i64 a] 3))(h1:w.heap[gw]?=some (.cells #[.int .i64 0] 3))(h2:w.heap[gh]?=some (.cells #[.int .i64 n,.int .i64 R,.int .i64 H] 206))
 (e0:n+1=n1) (e1:R+f=R1) (e2:H+t=H1) (b0:0<=n1/\n1<=9000000000000) (b1:0<=R1/\R1<=9000000000000) (b2:0<=H1/\H1<=9000000000000) (hc:¬a<n1):
 Calls prog 209 #[.agg #[.int .i64 f,.int .i64 t],.pointer (some ⟨gh,0,none⟩),.pointer (some ⟨ga,0,none⟩),.pointer (some ⟨gw,0,none⟩)] w fun e w'=>e=.returned (.bool false)/\AZ (fun q=>q=gh) w w'/\w'.heap[gh]?=some (.cells #[.int .i64 n1,.int .i64 R1,.int .i64 H1] 206):=by
 have Ag:=h0;have MA:=h1;have TR:=h2;have HC:=AC (fun w=>Jd f t w);have HA:=AC (fun w=>Ml n R H 1 f t n1 R1 H1 w e0 e1 e2 b0 b1 b2);clear h0 h1 h2 e0 e1 e2 b0 b1 b2;have d:decide (a<n1)=false:=decide_eq_false hc;go_enter func209,ntmps209;go_wp2_with fail;refine JL w (w.heap.size) (.cells #[.int .i64 f,.int .i64 t] 61) ?_;intro w1 AJ KN;have AG:=AJ;have AH:=AB AJ Ag;have Aq:=AB AJ MA;have DA:=AB AJ TR;apply AP (5) [⟨2,9,.agg #[.int .i64 1,.int .i64 f,.int .i64 t],false,fun v _=>v=.agg #[.int .i64 1,.int .i64 f,.int .i64 t]⟩,⟨3,10,.agg #[.int .i64 n1,.int .i64 R1,.int .i64 H1],false,fun v _=>v=.agg #[.int .i64 n1,.int .i64 R1,.int .i64 H1]⟩,⟨4,6,undef,true,GZ (.cells #[.int .i64 0,.int .i64 0,.int .i64 0] 206)⟩] [⟨4,6,GZ (.cells #[.int .i64 0,.int .i64 0,.int .i64 0] 206)⟩] rfl AY AY AY Ar AY
 case hstab=>
  intro c hc;rcases Cv hc with rfl|rfl|rfl
  ·intro v x y BE hv;exact hv
  ·intro v x y BE hv;exact hv
  ·intro v x y BE hv;exact EI BE hv
 case hfix=>
  intro c hc;rcases Cv hc with rfl|rfl|rfl
  ·exact .inr fun u x h=>h
  ·exact .inr fun u x h=>h
  ·exact .inl rfl
 case hlex=>
  intro U hU;have q2:=AE (AB hU DA);have q3:=AE (AB hU KN);refine Hj ?_
  repeat (go_big_quiet_step (fail))
  exact wpQuiet_nil rfl
 case hstep=>
  intro j hj o ho;have CQ:j=0\/j=1\/j=2:=by simp at hj;omega
  rcases CQ with rfl|rfl|rfl
  ·cases ho;refine ⟨rfl,fun g x hx hp=>?_⟩;clear hp;refine Bp ?_;refine AO ?_ (At (HC x));simp[go_sem,execOp]
  ·cases ho;refine ⟨rfl,fun g x hx hp=>?_⟩;clear hp;refine Bp ?_;refine AO ?_ (At (HA x));simp[go_sem,execOp]
  ·cases ho;refine ⟨rfl,fun g x hx hp=>?_⟩;exact Ii (fun r x=>by simp[go_sem,execOp])
 case htail=>
  intro g u Aw Az;have AL:AA w1 (later u):=⟨u,rfl⟩;generalize later u=w2 at *;clear u;obtain ⟨⟨b6,e6,Pr⟩,Pf⟩:=Aw _ (mem_of_getElem? (i:=0) rfl);dsimp only at e6 Pf;have Pf:=Pf b6 (by rw[e6];rfl);clear Aw Az;refine DH ?_;rw[e6];clear e6;obtain ⟨vA,xp⟩:=DX Pr;go_wp2_with fail;refine JL w1 (b6) (.cells #[.int .i64 n1,.int .i64 R1,.int .i64 H1] 206) ?_;intro w3 AX Sp;have An:=AG.trans AX;have Ah:=AB AX AH;have BD:=AB AX Aq;have Er:=AB AX DA;have CB:=AE Ah;have Dm:=AE BD;have xt:=AE Sp
  go_quiet (fail)
  generalize fj:w3.drewN nq=w4;have Ao:AA w3 w4:=by rw[<-fj];exact (AA.refl _).drewN _
  clear fj;have Bl:=An.trans Ao;have So:=AB Ao Er;have SC:=AB Ao Sp;obtain ⟨uz,Y18⟩:=DX So;have qn:=AE SC;(try clear CB);(try clear Dm);(try clear xt);go_wp2_with fail;go_ret;refine ⟨rfl,(AZ.setCell (S:=fun q=>q=gh) (b:=gh) (AZ.setCell (S:=fun q=>q=gh) (b:=gh) (AZ.setCell (S:=fun q=>q=gh) (b:=gh) (AZ.of Bl) rfl _) rfl _) rfl _),?_⟩;exact CG
theorem D8.pre{l a b:Qs}(h:D8 l)(hl:l.length<=90000)(e:l=a++b):(0<=(a.length:Int)/\(a.length:Int)<=9000000000000)/\(0<=DL a/\DL a<=9000000000000)/\0<=DG a/\DG a<=9000000000000:=by
 have h1:D8 a:=by rw[e]at h;exact h.left
 have h2:=h1.Ob;have h3:a.length<=90000:=by have:=congrArg List.length e;rw[length_append]at this;omega
 omega
theorem cH(W:World)(ga gw gh g6 g7 b cap:Nat)(a:Int)(l p1 p2 q:Qs)(x y:Int)(w:World)(hW:AA W w)(hg:W.heap.size<=gh)(na:ga≠gh)(nw:gw≠gh)(n6:g6≠gh)(n7:g7≠gh)(ho:OQ 61 W 0 (.slice (some ⟨b,0,none⟩) l.length cap) l)
 (h0:w.heap[ga]?=some (.cells #[.int .i64 a] 3)) (h1:w.heap[gw]?=some (.cells #[.int .i64 0] 3)) (h2:w.heap[g6]?=some (.cells #[.int .i64 0,.int .i64 0] 61)) (h3:w.heap[g7]?=some (.cells #[.int .i64 0,.int .i64 0,.int .i64 0] 206)) (h4:w.heap[gh]?=some (.cells #[.int .i64 (p1.length:Int),.int .i64 (DL p1),.int .i64 (DG p1)] 206))
 (hl:l=p2++(x,y)::q) (hT:D8 (p1++l)) (hm:(p1++l).length<=90000) (c1:Zs 0 (p1++p2)<=a) (c2:a<Zs 0 (p1++p2++[(x,y)])):
 Calls prog 208 #[.slice (some ⟨b,0,none⟩) l.length cap,.func (.func 209) #[] #[.pointer (some ⟨gh,0,none⟩),.pointer (some ⟨ga,0,none⟩),.pointer (some ⟨gw,0,none⟩)]] w fun e w'=>e=.returned (.int .i64 (p2.length:Int))/\AA W w'/\w'.heap[g6]?=some (.cells #[.int .i64 0,.int .i64 0] 61)/\w'.heap[g7]?=some (.cells #[.int .i64 0,.int .i64 0,.int .i64 0] 206)/\w'.heap[gh]?=some (.cells #[.int .i64 ((p1++p2).length:Int),.int .i64 (DL (p1++p2)),.int .i64 (DG (p1++p2))] 206):=by
 have hs:p2.length<l.length:=by rw[hl];simp
 have step:∀(j:Nat) (h:j<l.length),p1++l.take (j+1)=(p1++l.take j)++[l[j]]:=fun j h=>by rw[List.take_succ_eq_append_getElem h,append_assoc]
 have bnd:∀j:Nat,_:=fun j=>D8.pre (a:=p1++l.take j) (b:=l.drop j) hT hm (by rw[append_assoc,take_append_drop])
 have tk:l.take p2.length=p2:=by rw[hl];simp
 have yz:l[p2.length]=(x,y):=by simp[hl]
 refine Lo _ _ _ l p2.length w
  (fun j z=>AA W z/\z.heap[ga]?=some (.cells #[.int .i64 a] 3)/\z.heap[gw]?=some (.cells #[.int .i64 0] 3)/\z.heap[g6]?=some (.cells #[.int .i64 0,.int .i64 0] 61)/\z.heap[g7]?=some (.cells #[.int .i64 0,.int .i64 0,.int .i64 0] 206)/\z.heap[gh]?=some (.cells #[.int .i64 ((p1++l.take j).length:Int),.int .i64 (DL (p1++l.take j)),.int .i64 (DG (p1++l.take j))] 206))
  (fun z=>AA W z/\z.heap[g6]?=some (.cells #[.int .i64 0,.int .i64 0] 61)/\z.heap[g7]?=some (.cells #[.int .i64 0,.int .i64 0,.int .i64 0] 206)/\z.heap[gh]?=some (.cells #[.int .i64 ((p1++p2).length:Int),.int .i64 (DL (p1++p2)),.int .i64 (DG (p1++p2))] 206))
  hs (by rw[length_append]at hm;omega) ⟨hW,h0,h1,h2,h3,by simpa using h4⟩ (fun j z hz=>(OQ.rq ho).later hz.1) (enters_of func209 AY rfl) (fun j h z hz=>?_) (fun z hz=>?_)
 ·obtain ⟨k1,k2,k3,k4,k5,k6⟩:=hz;have hj:j<l.length:=AD;obtain ⟨e0,e1,e2⟩:=Ss (p1++l.take j) l[j];have e:=step j hj;have b1:=bnd (j+1);have hc:¬a<Zs 0 (p1++l.take (j+1)):=by
   have e3:p1++p2=(p1++l.take (j+1))++p2.drop (j+1):=by
    have:l.take (j+1)=p2.take (j+1):=by rw[hl,List.take_append_of_le_length AD]
    rw[this,append_assoc,take_append_drop]
   have h5:D8 (p2.drop (j+1)):=fun u hu=>hT u (by rw[hl];simp[List.mem_of_mem_drop hu])
   rw[e3,MQ]at c1;have:=h5.cnt 0
   omega
  refine (dp ga gw gh a l[j].1 l[j].2 _ _ _ ((p1++l.take (j+1)).length:Int) (DL (p1++l.take (j+1))) (DG (p1++l.take (j+1))) z k2 k3 k6 (by rw[e,e0];omega) (by rw[e,e1]) (by rw[e,e2]) b1.1 b1.2.1 b1.2.2 hc).mono ?_;rintro e w' ⟨rfl,st,hb⟩;exact ⟨rfl,st.any k1 (fun k hk=>by rw[hk];exact hg),st.own k2 na,st.own k3 nw,st.own k4 n6,st.own k5 n7,hb⟩
 ·obtain ⟨k1,k2,k3,k4,k5,k6⟩:=hz;obtain ⟨e0,e1,e2⟩:=Ss (p1++l.take p2.length) l[p2.length];have e:=step p2.length hs;have b1:=bnd (p2.length+1);have hc:a<Zs 0 (p1++l.take (p2.length+1)):=by rw[e,tk,yz];exact c2
  refine (Ze ga gw gh a l[p2.length].1 l[p2.length].2 _ _ _ ((p1++l.take (p2.length+1)).length:Int) (DL (p1++l.take (p2.length+1))) (DG (p1++l.take (p2.length+1))) z k2 k3 k6 (by rw[e,e0];omega) (by rw[e,e1]) (by rw[e,e2]) b1.1 b1.2.1 b1.2.2 hc).mono ?_;rintro e w' ⟨rfl,st⟩;rw[tk]at k6;exact ⟨rfl,k1.trans st,AB st k4,AB st k5,AB st k6⟩
theorem jn(t:Ht)(v:Value)(a:Int)(pre post:Qs)(x y:Int)(w:World)(h:CD B t v w)(hf:t.Fit)(he:t.hs=pre++(x,y)::post)(h1:Zs 0 pre<=a)(h2:a<Zs 0 (pre++[(x,y)])):
 Calls prog 166 #[v,.int .i64 a,.int .i64 0] w fun e w'=>e=.returned (.tuple #[.agg #[.int .i64 x,.int .i64 y],.agg #[.int .i64 (pre.length:Int),.int .i64 (DL pre),.int .i64 (DG pre)]])/\AA w w':=by
 have hn:t≠.nil:=fun e=>by rw[e]at he;simp[Ht.hs]at he
 have HF:=AC (And.intro hf (And.intro he (And.intro h1 h2)));have H0:=AC (And.intro h hn);obtain ⟨k0,rfl⟩:=h.there hn;clear h hf he h1 h2 hn;go_enter func166,ntmps166;go_wp2_with fail;refine BW (fun wS=>AA w wS/\wS.heap[w.heap.size]?=some (.cells #[.int .i64 a] 3)/\wS.heap[w.heap.size+1]?=some (.cells #[.int .i64 0] 3)/\wS.heap[w.heap.size+1+1]?=some (.cells #[.int .i64 0,.int .i64 0] 61)/\wS.heap[w.heap.size+1+1+1]?=some (.cells #[.int .i64 0,.int .i64 0,.int .i64 0] 206)/\wS.heap[w.heap.size+1+1+1+1]?=some (.cells #[.int .i64 0,.int .i64 0,.int .i64 0] 206)) ⟨BQ,CG,CG,CG,CG,CG⟩ ?_;rintro w1 ⟨AJ,AH,Aq,DA,KN,iX⟩;have AG:=AJ;obtain ⟨B7,Eg,J5⟩:=GH AH;obtain ⟨Gm,Wz,Qk⟩:=GH Aq;obtain ⟨Zy,yA,qX⟩:=GH DA;obtain ⟨wT,xP,pd⟩:=GH KN;obtain ⟨xR,vO,uy⟩:=GH iX;go_loopg [0] t.np (fun kk nv wr=>∃(s:Ht) (p1 p2 q rest:Qs),kk=s.np/\Hid (CD B s nv w/\s≠.nil/\s.Fit/\pre=p1++p2/\s.hs=p2++(x,y)::q/\t.hs=p1++s.hs++rest)/\AA w wr/\wr.heap[w.heap.size]?=some (.cells #[.int .i64 a] 3)/\wr.heap[w.heap.size+1]?=some (.cells #[.int .i64 0] 3)/\wr.heap[w.heap.size+1+1]?=some (.cells #[.int .i64 0,.int .i64 0] 61)/\wr.heap[w.heap.size+1+1+1]?=some (.cells #[.int .i64 0,.int .i64 0,.int .i64 0] 206)/\wr.heap[w.heap.size+1+1+1+1]?=some (.cells #[.int .i64 (p1.length:Int),.int .i64 (DL p1),.int .i64 (DG p1)] 206))
 case atStart=>exact ⟨t,[],pre,post,[],rfl,AC ⟨H0.out.1,H0.out.2,HF.out.1,rfl,HF.out.2.1,Ar⟩,AG,AH,Aq,DA,KN,iX⟩
 case round=>
  obtain ⟨s,p1,p2,q,rest,rfl,HI,AW,CR,Fs,Pk,PF,NF⟩:=hrel;clear AH Aq DA KN iX B7 Gm Zy wT xR Eg Wz yA xP vO J5 Qk qX pd uy;have Q14:=AW.below.size;have Dy:=AE CR;have J6:=AE Fs;have V8:=AE Pk;have Uq:=AE PF;have Wp:=AE NF;have Vx:=Bq Pk;have WA:=Bq PF;have WW:=Bq NF;have xc:=As CR;have wE:=As Fs;have xT:=As Pk;have xD:=As PF;have wP:=As NF
  cases s with
  |nil=>exact absurd rfl HI.out.2.1
  |leaf b l=>
   obtain ⟨k,cap,e0,hk,ho⟩:=HI.out.1.leaf;subst e0;have rH:(p1++l).length<=90000/\D8 (p1++l):=by
    have e1:=HI.out.2.2.2.2.2;have e2:=HF.out.1.most;have e3:=HF.out.1.Hz;rw[e1]at e2 e3;rw[Ht.hs]at e2 e3;exact ⟨by rw[length_append]at e2;omega,e3.left⟩
   have uK:l=p2++(x,y)::q:=HI.out.2.2.2.2.1;have Z15:pre=p1++p2:=HI.out.2.2.2.1;have HX:=AC (fun (w':World) (e:AA w w')=>cH w w.heap.size (w.heap.size+1) (w.heap.size+1+1+1+1) (w.heap.size+1+1) (w.heap.size+1+1+1) b cap a l p1 p2 q x y w' e AD AD AD AD AD ho);have qP:=AC (And.intro uK (And.intro rH.2 (And.intro rH.1 HF.out.2.2)));obtain ⟨bb,off,e7,hb7,c0,c1⟩:=(OQ.rq ho).at p2.length (by rw[uK];simp);cases e7;have yz:l[p2.length]'(by rw[uK];simp)=(x,y):=by simp[uK]
   rw[yz]at c0 c1;simp only[Nat.zero_add]at c0 c1;have ln:p2.length<l.length:=by rw[uK];simp
   unfold Bm at hk;have OH:=AB AW hk;obtain ⟨Rm,pe⟩:=Rn OH;have HK:=AC hk;rw[<-Z15]at HX;clear hk ho uK yz rH;generalize l.length=n at *;generalize p2.length=m at *;go_wp2_with fail;refine (HX wr AW CR Fs Pk PF NF qP.out.1 qP.out.2.1 qP.out.2.2.1 qP.out.2.2.2.1 qP.out.2.2.2.2).mono ?_;rintro e w6 ⟨rfl,IV,PC,pW,un⟩;have wv:=AB IV HK.out;have qT:=AE PC;have J16:=AE pW;have Z17:=AE un;have X17:=AE wv;have pZ:=Bq PC;have X18:=Bq pW;have c0:=(IV.below.cell hb7).trans c0;have c1:=(IV.below.cell hb7).trans c1;clear CR Fs Pk PF NF OH Dy J6 V8 Uq Wp Rm Vx WA WW xc wE xT xD wP pe AW Q14;go_wp2_with fail
   go_region
   go_wp2_with fail;refine bodyPost_ret (v:=.tuple #[.agg #[.int .i64 x,.int .i64 y],.agg #[.int .i64 (pre.length:Int),.int .i64 (DL pre),.int .i64 (DG pre)]]) (by simp[results,results166,go_sem, *]) rfl ⟨rfl,?_⟩;exact BQ
  |node l r=>
   obtain ⟨k,lv,rv,e0,nl,nr,hk,hl,hr⟩:=HI.out.1.node;subst e0;have HL:Hid (CD B l lv w/\CD B r rv w/\l≠.nil/\r≠.nil/\l.Fit/\r.Fit):=AC ⟨hl,hr,nl,nr,HI.out.2.2.1.left,HI.out.2.2.1.right⟩;obtain ⟨k1,a0,a1,a2,rfl,O_⟩:=hl.D6 nl;obtain ⟨k2,rfl⟩:=hr.there nr;unfold Bm at hk O_;have OH:=AB AW hk;have pK:=AB AW O_;obtain ⟨Rm,pe⟩:=Rn OH;clear hk O_ hl hr nl nr;have hb:=D8.pre (a:=p1++l.hs) (b:=r.hs++rest) HF.out.1.Hz HF.out.1.most (by rw[HI.out.2.2.2.2.2,Ht.hs];simp);rw[length_append,EC,EO]at hb;have HA:=AC (fun w=>Ml (p1.length:Int) (DL p1) (DG p1) (l.hs.length:Int) (DL l.hs) (DG l.hs) ((p1.length+l.hs.length:Nat):Int) (DL p1+DL l.hs) (DG p1+DG l.hs) w AD rfl rfl hb.1 hb.2.1 hb.2.2);have sW:(p2.length<l.hs.length/\∃q',l.hs=p2++(x,y)::q')\/(∃p3,p2=l.hs++p3/\r.hs=p3++(x,y)::q):=by
    have e:=HI.out.2.2.2.2.1;rw[Ht.hs]at e;rcases List.append_eq_append_iff.1 e with ⟨a',h1,h2⟩|⟨c',h1,h2⟩
    ·exact .inr ⟨a',h1,h2⟩
    ·cases c' with
     |nil=>exact .inr ⟨[],by simpa using h1.symm,by simpa using h2.symm⟩
     |cons z c'=>
      rw[List.cons_append]at h2;cases h2;exact .inl ⟨by rw[h1];simp,c',h1⟩
   have HM:Hid (Zs 0 (p1++l.hs)=((p1.length+l.hs.length:Nat):Int)):=AC (by show ((p1++l.hs).length:Int)=_;rw[length_append]);obtain ⟨N1,yn⟩:=BZ (((p1.length+l.hs.length:Nat):Int));obtain ⟨R1,hR1⟩:=BZ (DL p1+DL l.hs);obtain ⟨H1,hH1⟩:=BZ (DG p1+DG l.hs);have tH:Hid (((p1++l.hs).length:Int)=N1/\DL (p1++l.hs)=R1/\DG (p1++l.hs)=H1):=AC ⟨by rw[<-yn,length_append],by rw[<-hR1,EC],by rw[<-hH1,EO]⟩;rw[yn,hR1,hH1]at HA;rw[yn]at HM;clear yn hR1 hH1 hb;have uG:=HF.out.1.Hz;rcases sW with ⟨BN,q',hq⟩|⟨p3,hp,hq⟩
   ·have hc:a<N1:=by
     rw[<-HM.out];have e1:p1++l.hs=(pre++[(x,y)])++q':=by rw[hq,HI.out.2.2.2.1];simp
     have hq1:D8 q':=by
      rw[HI.out.2.2.2.2.2,Ht.hs,hq]at uG;exact fun z hz=>uG z (by simp[hz])
     rw[e1,MQ];have:=hq1.cnt 0
     have:=HF.out.2.2.2
     omega
    have HQ:=AC hq;have d:decide (a<N1)=true:=decide_eq_true hc;clear uG BN hq HM hc;go_wp2_with fail;apply AP (11) [⟨9,26,.agg #[.int .i64 N1,.int .i64 R1,.int .i64 H1],false,fun v _=>v=.agg #[.int .i64 N1,.int .i64 R1,.int .i64 H1]⟩,⟨10,9,undef,true,GZ (.cells #[.int .i64 0,.int .i64 0,.int .i64 0] 206)⟩] [⟨10,9,GZ (.cells #[.int .i64 0,.int .i64 0,.int .i64 0] 206)⟩] rfl AY AY AY Ar AY
    case hstab=>
     intro c hc;rcases Cv hc with rfl|rfl
     ·intro v x y BE hv;exact hv
     ·intro v x y BE hv;exact EI BE hv
    case hfix=>
     intro c hc;rcases Cv hc with rfl|rfl
     ·exact .inr fun u x h=>h
     ·exact .inl rfl
    case hlex=>
     intro U hU;have q4:=AE (AB hU NF);have q5:=AE (AB hU OH);have q6:=AE (AB hU pK);refine Hj ?_
     repeat (go_big_quiet_step (fail))
     exact wpQuiet_nil rfl
    case hstep=>
     intro j hj o ho;have CQ:j=0\/j=1:=by simp at hj;omega
     rcases CQ with rfl|rfl
     ·cases ho;refine ⟨rfl,fun g x hx hp=>?_⟩;clear hp;refine Bp ?_;refine AO ?_ (At (HA x));simp[go_sem,execOp]
     ·cases ho;refine ⟨rfl,fun g x hx hp=>?_⟩;exact Ii (fun r x=>by simp[go_sem,execOp])
    case htail=>
     intro g u Aw Az;have AL:AA wr (later u):=⟨u,rfl⟩;generalize later u=w2 at *;clear u;obtain ⟨⟨b9,e9,jF⟩,PS⟩:=Aw _ (mem_of_getElem? (i:=0) rfl);dsimp only at e9 PS;have PS:=PS b9 (by rw[e9];rfl);clear Aw Az;refine DH ?_;rw[e9];clear e9;(try clear Dy);(try clear J6);(try clear V8 Vx);(try clear Uq WA);(try clear Wp WW);(try clear Rm);obtain ⟨vS,x8⟩:=DX jF;go_wp2_with fail;refine JL wr (b9) (.cells #[.int .i64 N1,.int .i64 R1,.int .i64 H1] 206) ?_;intro w3 AX VM;have An:=AW.trans AX;have Ah:=AB AX CR;have BD:=AB AX Fs;have Er:=AB AX Pk;have Ph:=AB AX PF;have Sp:=AB AX NF;have jd:=AB AX OH;have CB:=AE Ah;have Dm:=AE BD;(try clear Dy);(try clear J6);(try clear V8 Vx);(try clear Uq WA);(try clear Wp WW);(try clear Rm);have gP:=AE VM
     go_quiet (fail)
     generalize fj:w3.drewN nq=w4;have Ao:AA w3 w4:=by rw[<-fj];exact (AA.refl _).drewN _
     clear fj;have Bl:=An.trans Ao;have BK:=AB Ao Ah;have CE:=AB Ao BD;have So:=AB Ao Er;have qY:=AB Ao Ph;have SC:=AB Ao Sp;have ig:=AB Ao jd;have iY:=AB Ao VM;obtain ⟨qn,ut⟩:=DX SC;have x9:=AE ig;have wa:=AE iY;(try clear CB);(try clear Dm);(try clear gP);go_wp2_with fail;go_roundg l.np
     case measure=>simp only[Ht.np];omega
     case rel=>
      refine ⟨l,p1,p2,q',r.hs++rest,rfl,AC ⟨HL.out.1,HL.out.2.2.1,HL.out.2.2.2.2.1,HI.out.2.2.2.1,HQ.out,?_⟩,Bl,BK,CE,So,qY,SC⟩;rw[HI.out.2.2.2.2.2,Ht.hs];simp
   ·have hc:¬a<N1:=by
     rw[<-HM.out];have e1:pre=(p1++l.hs)++p3:=by rw[HI.out.2.2.2.1,hp];simp
     have hq1:D8 p3:=by
      rw[HI.out.2.2.2.2.2,Ht.hs,hq]at uG;exact fun z hz=>uG z (by simp[hz])
     have h1:=HF.out.2.2.1;rw[e1,MQ]at h1;have:=hq1.cnt 0
     omega
    have HQ:=AC (And.intro hp hq);have d:decide (a<N1)=false:=decide_eq_false hc;clear uG hp hq HM hc;go_wp2_with fail;apply AP (11) [⟨9,26,.agg #[.int .i64 N1,.int .i64 R1,.int .i64 H1],false,fun v _=>v=.agg #[.int .i64 N1,.int .i64 R1,.int .i64 H1]⟩,⟨10,9,undef,true,GZ (.cells #[.int .i64 0,.int .i64 0,.int .i64 0] 206)⟩] [⟨10,9,GZ (.cells #[.int .i64 0,.int .i64 0,.int .i64 0] 206)⟩] rfl AY AY AY Ar AY
    case hstab=>
     intro c hc;rcases Cv hc with rfl|rfl
     ·intro v x y BE hv;exact hv
     ·intro v x y BE hv;exact EI BE hv
    case hfix=>
     intro c hc;rcases Cv hc with rfl|rfl
     ·exact .inr fun u x h=>h
     ·exact .inl rfl
    case hlex=>
     intro U hU;have q4:=AE (AB hU NF);have q5:=AE (AB hU OH);have q6:=AE (AB hU pK);refine Hj ?_
     repeat (go_big_quiet_step (fail))
     exact wpQuiet_nil rfl
    case hstep=>
     intro j hj o ho;have CQ:j=0\/j=1:=by simp at hj;omega
     rcases CQ with rfl|rfl
     ·cases ho;refine ⟨rfl,fun g x hx hp=>?_⟩;clear hp;refine Bp ?_;refine AO ?_ (At (HA x));simp[go_sem,execOp]
     ·cases ho;refine ⟨rfl,fun g x hx hp=>?_⟩;exact Ii (fun r x=>by simp[go_sem,execOp])
    case htail=>
     intro g u Aw Az;have AL:AA wr (later u):=⟨u,rfl⟩;generalize later u=w2 at *;clear u;obtain ⟨⟨b9,e9,jF⟩,PS⟩:=Aw _ (mem_of_getElem? (i:=0) rfl);dsimp only at e9 PS;have PS:=PS b9 (by rw[e9];rfl);clear Aw Az;refine DH ?_;rw[e9];clear e9;(try clear Dy);(try clear J6);(try clear V8 Vx);(try clear Uq WA);(try clear Wp WW);(try clear Rm);obtain ⟨vS,x8⟩:=DX jF;go_wp2_with fail;refine JL wr (b9) (.cells #[.int .i64 N1,.int .i64 R1,.int .i64 H1] 206) ?_;intro w3 AX VM;have An:=AW.trans AX;have Ah:=AB AX CR;have BD:=AB AX Fs;have Er:=AB AX Pk;have Ph:=AB AX PF;have Sp:=AB AX NF;have jd:=AB AX OH;have CB:=AE Ah;have Dm:=AE BD;(try clear Dy);(try clear J6);(try clear V8 Vx);(try clear Uq WA);(try clear Wp WW);(try clear Rm);have gP:=AE VM
     go_quiet (fail)
     generalize fj:w3.drewN nq=w4;have Ao:AA w3 w4:=by rw[<-fj];exact (AA.refl _).drewN _
     clear fj;have Bl:=An.trans Ao;have BK:=AB Ao Ah;have CE:=AB Ao BD;have So:=AB Ao Er;have qY:=AB Ao Ph;have SC:=AB Ao Sp;have ig:=AB Ao jd;have iY:=AB Ao VM;obtain ⟨qn,ut⟩:=DX SC;have x9:=AE ig;have wa:=AE iY;(try clear CB);(try clear Dm);(try clear gP);go_wp2_with fail
     go_region
     go_wp2_with fail;go_roundg r.np
     case measure=>simp only[Ht.np];omega
     case rel=>
      refine ⟨r,p1++l.hs,p3,q,rest,rfl,AC ⟨HL.out.2.1,HL.out.2.2.2.1,HL.out.2.2.2.2.2,?_,HQ.out.2,?_⟩,?_,?_,?_,?_,?_,?_⟩
      ·rw[HI.out.2.2.2.1,HQ.out.1];simp
      ·rw[HI.out.2.2.2.2.2,Ht.hs];simp
      ·exact BQ
      ·exact CG
      ·exact CG
      ·exact CG
      ·exact CG
      ·rw[tH.out.1,tH.out.2.1,tH.out.2.2];exact CG
end
section
variable{l r t:Ht}{F1 F2:List Nat}{g k:Nat}{a b c d lv rv x3 x4 x5 x6:Value}{w w':World}
theorem TF(l:Qs)(k:Nat)(hk:k<l.length*2):(CL l)[k]?=if k%2=0 then (l[k/2]?).map (fun b=>Value.int .i64 b.1) else (l[k/2]?).map (fun b=>Value.int .i64 b.2):=by
 rcases Nat.mod_two_eq_zero_or_one k with hm|hm
 ·rw[if_pos hm];have e:k=k/2*2:=AD
  conv=>lhs;rw[e,JO]
 ·rw[if_neg AD];have e:k=k/2*2+1:=AD
  conv=>lhs;rw[e,Jg]
theorem OQ.set{t:TypeId}{B n cap:Nat}{l:Qs}{i:Nat}(x:Int × Int)(h:OQ t w B (.slice (some ⟨g,0,none⟩) n cap) l)(hi:i<l.length):
 OQ t ((w.setCell ⟨g,i*2,none⟩ (.int .i64 x.1)).setCell ⟨g,i*2+1,none⟩ (.int .i64 x.2)) B (.slice (some ⟨g,0,none⟩) n cap) (l.set i x):=by
 refine ⟨by rw[Bb],?_⟩;rcases h.2 with ⟨e,_⟩|⟨g',DZ,cur,e,h2,h3,h4,h5,h6,h7⟩
 ·cases e
 ·cases e;refine .inr ⟨g,cap,_,by rw[length_set],h2,BI (BI h3 rfl) rfl,by rw[length_set];exact h4,h5,by rw[Array.size_setIfInBounds,Array.size_setIfInBounds];exact h6,?_⟩;rw[length_set];apply List.ext_getElem?
  intro k;by_cases hk:k<l.length*2
  ·have old:cur[k]?=(CL l)[k]?:=by
    have:(cur.toList.take (l.length*2))[k]?=(CL l)[k]?:=by rw[h7]
    rwa [List.getElem?_take_of_lt hk,Array.getElem?_toList]at this
   rw[List.getElem?_take_of_lt hk,Array.getElem?_toList,TF _ k (by rw[length_set];exact hk)];by_cases q1:k=i*2+1
   ·subst q1;rw[Array.getElem?_setIfInBounds_self,if_pos (by rw[Array.size_setIfInBounds];omega),if_neg AD,show (i*2+1)/2=i by omega,List.getElem?_set_self hi];rfl
   ·rw[Array.getElem?_setIfInBounds_ne (fun e=>q1 e.symm)];by_cases q2:k=i*2
    ·subst q2;rw[Array.getElem?_setIfInBounds_self,if_pos AD,if_pos AD,show i*2/2=i by omega,List.getElem?_set_self hi];rfl
    ·rw[Array.getElem?_setIfInBounds_ne (fun e=>q2 e.symm),List.getElem?_set_ne AD,old,TF l k hk]
  ·rw[List.getElem?_eq_none (by rw[length_take];omega),List.getElem?_eq_none (by rw[Bb,length_set];omega)]
def RQ(x:Int × Int):Prop:=(0<=x.1/\x.1<=16777216)/\0<=x.2/\x.2<=16777216
theorem Ht.Fit.setT(h:t.Fit)(fn:t.Cd)(i:Nat){x:Int × Int}(hx:RQ x):(t.setT i x).Fit:=⟨((Ht.GD t i x).2.2.2 fn).2,by rw[Ht.Gq];exact h.Hz.set hx,by rw[Ht.Gq,length_set];exact h.most⟩
theorem NM{j:Nat}(h:j≠k):((((w.setCell ⟨k,3,none⟩ a).setCell ⟨k,3+1,none⟩ b).setCell ⟨k,3+2,none⟩ c).setCell ⟨k,3+3,none⟩ d).heap[j]?=w.heap[j]?:=by
 cases hj:w.heap[j]? with
 |none=>
  rw[Array.getElem?_eq_none_iff]at hj ⊢;simpa only[World.size_setCell] using hj
 |some o=>exact Bh h (Bh h (Bh h (Bh h hj)))
theorem WG{x0 x1 x2:Value}{t:TypeId}(h:w.heap[k]?=some (.cells #[x0,x1,x2,x3,x4,x5,x6] t)):((((w.setCell ⟨k,3,none⟩ a).setCell ⟨k,3+1,none⟩ b).setCell ⟨k,3+2,none⟩ c).setCell ⟨k,3+3,none⟩ d).heap[k]?=some (.cells #[x0,x1,x2,a,b,c,d] t):=
 BI (BI (BI (BI h rfl) rfl) rfl) rfl
def SL(t t':Ht)(v:Value)(F:List Nat)(w:World)(e:Ending)(w':World):Prop:=e=.returned (.tuple #[])/\AZ (· ∈F) w w'/\Dx w' t' v F
theorem d7(b:Nat)(l:Qs)(v:Value)(F:List Nat)(i:Nat)(x y:Int)(w:World)(h:Dx w (.leaf b l) v F)(hf:(Ht.leaf b l).Fit)(hi:i<l.length)(hx:RQ (x,y)):
 Calls prog 233 #[v,.int .i64 (i:Int),.agg #[.int .i64 x,.int .i64 y]] w (SL (.leaf b l) (.leaf b (l.set i (x,y))) v F w):=by
 obtain ⟨k,cap,rfl,rfl,hk,ho⟩:=h;obtain ⟨en,cur,hb,Oo,hlc,hcm,htk⟩:=OQ.Sn ho;have Az:k≠b:=fun e=>by subst e;exact F_ hk hb
 have X2:=As hk;have Lp:=As hb;obtain ⟨bb,off,e7,-,c0,c1⟩:=(OQ.rq ho).at i hi;cases e7;simp only[Nat.zero_add]at c0 c1;have HR:Hid (∀w1 w',AA w w1->AA ((w1.setCell ⟨b,i*2,none⟩ (.int .i64 x)).setCell ⟨b,i*2+1,none⟩ (.int .i64 y)) w'->Calls prog 260 #[.pointer (some ⟨k,0,none⟩)] w' fun e Bg=>e=.returned (.agg #[.int .i64 (l.length:Int),.int .i64 (DL (l.set i (x,y))),.int .i64 (DG (l.set i (x,y))),.int .i64 1])/\AA w' Bg):=AC (fun w1 w' a1 a=>by
  have Gh:=AB a (Bh (v:=.int .i64 y) (i:=i*2+1) Az (Bh (v:=.int .i64 x) (i:=i*2) Az (AB a1 hk)));have hq:=(OQ.rq (OQ.set (x,y) (OQ.later a1 ho) hi)).later a;have:=Lh k (.pointer none) (.slice (some ⟨b,0,none⟩) l.length cap) _ _ _ _ (l.set i (x,y)) w' Gh hq (by rw[length_set];exact hf.most) (hf.Hz.set hx)
  rwa [length_set]at this)
 have HF:Hid (∀w1 w',AA w w1->AA ((w1.setCell ⟨b,i*2,none⟩ (.int .i64 x)).setCell ⟨b,i*2+1,none⟩ (.int .i64 y)) w'->SL (.leaf b l) (.leaf b (l.set i (x,y))) (.pointer (some ⟨k,0,none⟩)) [k,b] w (.returned (.tuple #[]))
  ((((w'.setCell ⟨k,3,none⟩ (.int .i64 (l.length:Int))).setCell ⟨k,3+1,none⟩ (.int .i64 (DL (l.set i (x,y))))).setCell ⟨k,3+2,none⟩ (.int .i64 (DG (l.set i (x,y))))).setCell ⟨k,3+3,none⟩ (.int .i64 1))):=AC (fun w1 w' a1 a=>by
  have Gh:=AB a (Bh (v:=.int .i64 y) (i:=i*2+1) Az (Bh (v:=.int .i64 x) (i:=i*2) Az (AB a1 hk)));have hq:=OQ.later a (OQ.set (x,y) (OQ.later a1 ho) hi);have mk:k∈[k,b]:=Ar;have mb:b∈[k,b]:=Ar;refine ⟨rfl,?_,k,cap,rfl,rfl,?_,?_⟩
  ·have s1:=((AZ.of (S:=(· ∈[k,b])) a1).setCell (i:=i*2) mb (.int .i64 x)).setCell (i:=i*2+1) mb (.int .i64 y);exact ((((s1.later a).setCell mk _).setCell mk _).setCell mk _).setCell mk _
  ·unfold Bm at Gh ⊢;rw[WG Gh,length_set];simp[Ht.hs,Ht.Ad]
  ·have:=OQ.kept hq (NM (a:=.int .i64 (l.length:Int)) (b:=.int .i64 (DL (l.set i (x,y)))) (c:=.int .i64 (DG (l.set i (x,y)))) (d:=.int .i64 1) (fun e=>Az e.symm))
   rwa [length_set])
 have Ag:=hk;unfold Bm at Ag;have HK:=AC (And.intro hk hb);have fb:=Bq hb;clear hk ho hx hf htk hb Oo hlc hcm en;generalize l[i].1=u0 at *;generalize l[i].2=u1 at *;generalize DL (l.set i (x,y))=R1 at *;generalize DG (l.set i (x,y))=H1 at *;generalize l.length=n at *;have Bx:=AE Ag;go_enter func233,ntmps233;go_wp2_with fail;refine JL w (w.heap.size) (.cells #[.int .i64 x,.int .i64 y] 61) ?_;intro w1 AJ Aq;have AG:=AJ;have AH:=AB AJ Ag;obtain ⟨B7,Eg,J5⟩:=GH AH;(try clear Bx);obtain ⟨Gm,Wz,Qk⟩:=GH Aq;have Iz:=AB AG HK.out.2;have fb1:=Bq Iz;have lb1:=As Iz;have c0:=(AG.below.cell Lp).trans c0;have c1:=(AG.below.cell Lp).trans c1;clear fb
 go_region
 go_wp2_with fail;refine (HR w1 _ AG (AA.refl _).drew).mono ?_;rintro e w3 ⟨rfl,b3⟩;have b3:=((AA.refl _).drew).trans b3;have Ah:=AB b3 (Bh (v:=.int .i64 y) (i:=i*2+1) Az (Bh (v:=.int .i64 x) (i:=i*2) Az (AB AG HK.out.1)));unfold Bm at Ah;obtain ⟨CB,Fu⟩:=DX Ah;have HZ:=AC (HF w1 w3 AG b3);clear b3 c0 c1 HK HR HF Iz fb1 lb1 Ag Ah AH Aq B7 Gm Eg Wz J5 Qk;go_wp2_with fail;refine bodyPost_ret (v:=.tuple #[]) (by simp[results,results233,go_sem]) rfl ?_;exact HZ.out
theorem SJ{w1:World}{l' r':Ht}(h1:Dx w1 l' lv F1)(h2:Dx w1 r' rv F2)(nl:l'≠.nil)(nr:r'≠.nil)(hk:w1.heap[k]?=some (.cells #[lv,rv,.slice none 0 0,x3,x4,x5,x6] 249))(k1:k∉F1)(k2:k∉F2)(ha:AA w1 w')
 (hs:AZ (· ∈k::(F1++F2)) w w1):SL (.node l r) (.node l' r') (.pointer (some ⟨k,0,none⟩)) (k::(F1++F2)) w (.returned (.tuple #[]))
  ((((w'.setCell ⟨k,3,none⟩ (.int .i64 ((l'.hs.length+r'.hs.length:Nat):Int))).setCell ⟨k,3+1,none⟩ (.int .i64 (DL l'.hs+DL r'.hs))).setCell ⟨k,3+2,none⟩ (.int .i64 (DG l'.hs+DG r'.hs))).setCell ⟨k,3+3,none⟩ (.int .i64 ((1+max l'.Ad r'.Ad:Nat):Int))):=by
 have mk:k∈k::(F1++F2):=Ar;refine ⟨rfl,?_,k,lv,rv,F1,F2,rfl,rfl,nl,nr,?_,?_,?_⟩
 ·exact (((((hs.later ha).setCell mk _).setCell mk _).setCell mk _).setCell mk _)
 ·have:=WG (a:=.int .i64 ((l'.hs.length+r'.hs.length:Nat):Int)) (b:=.int .i64 (DL l'.hs+DL r'.hs)) (c:=.int .i64 (DG l'.hs+DG r'.hs)) (d:=.int .i64 ((1+max l'.Ad r'.Ad:Nat):Int)) (AB ha hk)
  rw[this];unfold Bm;rw[Ht.hs,length_append,EC,EO,Ht.Ad]
 ·exact (h1.later ha).frame (fun b hb=>NM (fun e=>k1 (e ▸ hb)))
 ·exact (h2.later ha).frame (fun b hb=>NM (fun e=>k2 (e ▸ hb)))
def j_(t:Ht):Prop:=∀(v:Value) (F:List Nat) (i:Nat) (x y:Int) (w:World),Dx w t v F->i<t.hs.length->RQ (x,y)->Calls prog 233 #[v,.int .i64 (i:Int),.agg #[.int .i64 x,.int .i64 y]] w (SL t (t.setT i (x,y)) v F w)
theorem SW(h:Dx w (.node l r) (.pointer (some ⟨k,0,none⟩)) (k::(F1++F2)))(hl:Dx w l lv F1)(hr:Dx w r rv F2)(hn:(l.CW++r.CW).Nodup):(∀b∈F1,b∉F2)/\k∉F1/\k∉F2:=by
 obtain ⟨_,_,n3⟩:=List.nodup_append.1 hn;exact ⟨hl.apart hr (fun b hb Hr=>n3 b hb b Hr rfl),hl.qi h (by simp only[Ht.np];omega),hr.qi h (by simp only[Ht.np];omega)⟩
theorem bw(l r:Ht)(ih:j_ l)(v:Value)(F:List Nat)(i:Nat)(x y:Int)(w:World)(h:Dx w (.node l r) v F)(hf:(Ht.node l r).Fit)(fn:(Ht.node l r).Cd)(hn:(Ht.node l r).CW.Nodup)(hi:i<l.hs.length)(hx:RQ (x,y)):
 Calls prog 233 #[v,.int .i64 (i:Int),.agg #[.int .i64 x,.int .i64 y]] w (SL (.node l r) (.node (l.setT i (x,y)) r) v F w):=by
 have hm:=hf.most;rw[Ht.hs,length_append]at hm;obtain ⟨k,lv,rv,F1,F2,rfl,rfl,nl,nr,hk,hl,hr⟩:=id h;obtain ⟨ap,k1,k2⟩:=SW h hl hr hn;have HI:=AC (fun (w':World) (a:AA w w')=>ih lv F1 i x y w' (hl.later a) hi hx)
 have HW:Hid (∀w2 w3,AA w w2->AZ (· ∈F1) w2 w3->w3.heap[k]?=some (.cells (Bm lv rv (.slice none 0 0) (.node l r)) 249)/\Dx w3 r rv F2/\AZ (· ∈k::(F1++F2)) w w3):=AC (fun w2 w3 a s=>
  ⟨s.own (AB a hk) k1,(hr.later a).stays s (fun b hb Hr=>ap b Hr hb),(AZ.of a).trans (s.wide (fun _ _ q=>by simp[q]))⟩)
 obtain ⟨t1,t2,t3,t4⟩:=Ht.GD l i (x,y);have fl:=hf.left.setT fn.left i hx;have f1:=fl.Ob;have f2:=hf.right.Ob;have v1:=fl.Ad;have v2:=hf.right.Ad;have e1:(l.setT i (x,y)).hs.length=l.hs.length:=by rw[Ht.Gq,length_set]
 have VR:(l.setT i (x,y)).hs.length+r.hs.length<=90000:=AD;have nl2:l.setT i (x,y)≠.nil:=fun e=>nl (t3.1 e)
 have HR:Hid (∀(w3:World) (y3 y4 y5 y6:Value),w3.heap[k]?=some (.cells #[lv,rv,.slice none 0 0,y3,y4,y5,y6] 249)->Dx w3 (l.setT i (x,y)) lv F1->Dx w3 r rv F2->Calls prog 260 #[.pointer (some ⟨k,0,none⟩)] w3 fun e w'=>e=.returned (.agg #[.int .i64 (((l.setT i (x,y)).hs.length+r.hs.length:Nat):Int),.int .i64 (DL (l.setT i (x,y)).hs+DL r.hs),.int .i64 (DG (l.setT i (x,y)).hs+DG r.hs),.int .i64 ((1+max (l.setT i (x,y)).Ad r.Ad:Nat):Int)])/\AA w3 w'):=AC (fun w3 y3 y4 y5 y6 h1 h2 h3=>by
  obtain ⟨q1,a0,a1,a2,g1,g2⟩:=h2.D6 nl2;obtain ⟨q2,b0,b1,b2,g3,g4⟩:=h3.D6 nr;unfold Bm at g2 g4;rw[g1,g3]at h1;exact JS k q1 q2 (.slice none 0 0) _ _ _ _ a0 a1 a2 b0 b1 b2 _ _ _ _ _ _ _ _ w3 h1 g2 g4 VR ⟨v1,v2⟩ ⟨AD,AD⟩ ⟨AD,AD⟩)
 have HF:Hid (∀(w3 w':World) (y3 y4 y5 y6:Value),w3.heap[k]?=some (.cells #[lv,rv,.slice none 0 0,y3,y4,y5,y6] 249)->Dx w3 (l.setT i (x,y)) lv F1->Dx w3 r rv F2->AA w3 w'->AZ (· ∈k::(F1++F2)) w w3->_):=AC (fun w3 w' y3 y4 y5 y6 h1 h2 h3 h4 h5=>SJ (l:=l) (r:=r) h2 h3 nl2 nr h1 k1 k2 h4 h5);obtain ⟨p1,a0,a1,a2,rfl,h1⟩:=hl.D6 nl;obtain ⟨q2,rfl⟩:=hr.ptr;unfold Bm at hk h1 HW;have Ag:=hk;have MA:=h1;have d3: -90000<=(i:Int)-(l.hs.length:Int):=AD;have d4:(i:Int)-(l.hs.length:Int)<0:=AD;clear hl hr hk h1 h ih hf fn hn hx t1 t2 t3 t4 fl f1 f2 v1 v2 e1 VR nl2 nl nr ap k1 k2 hi;generalize (l.setT i (x,y)).hs.length+r.hs.length=N at *;generalize DL (l.setT i (x,y)).hs+DL r.hs=R at *;generalize DG (l.setT i (x,y)).hs+DG r.hs=H at *;generalize 1+max (l.setT i (x,y)).Ad r.Ad=M at *;generalize l.hs.length=n at *;obtain ⟨Bx,Wk⟩:=Rn Ag;obtain ⟨To,zk⟩:=Rn MA;go_enter func233,ntmps233;go_wp2_with fail;refine JL w (w.heap.size) (.cells #[.int .i64 x,.int .i64 y] 61) ?_;intro w1 AJ DA;have AG:=AJ;have AH:=AB AJ Ag;have Aq:=AB AJ MA;(try clear Bx);(try clear To);go_wp2_with fail;apply Ac (6) [] AY AY Ar
 case hstab=>
  intro e he v x y BE hv;simp only[mem_cons,not_mem_nil,or_false]at he
 case hlex=>
  intro U;have q0:=fun (v:BA (later U))=>AE (AB ⟨v,rfl⟩ (AB ⟨U,rfl⟩ AH))
  have q1:=fun (v:BA (later U))=>AE (AB ⟨v,rfl⟩ (AB ⟨U,rfl⟩ Aq))
  have q2:=fun (v:BA (later U))=>AE (AB ⟨v,rfl⟩ (AB ⟨U,rfl⟩ DA))
  refine Ku ?_
  repeat (go_big_quiet_step (fail))
  exact wpQuiet_nil rfl
 case hown=>
  intro e he o ho;simp only[mem_cons,not_mem_nil,or_false]at he
 case htail=>
  intro g u Aw Az;have AL:AA w1 (later u):=⟨u,rfl⟩;generalize later u=w2 at *;clear u;clear Aw Az;refine DH ?_;have AR:=AG.trans AL;have AU:=AB AL AH;have BH:=AB AL Aq;have DM:=AB AL DA;obtain ⟨BS,Dj,GV⟩:=GH AU;obtain ⟨Gl,OO,Qy⟩:=GH BH;obtain ⟨OK,R7,Z_⟩:=GH DM;go_wp2_with fail;refine (HI w2 AR).mono ?_;rintro e w3 ⟨rfl,st,eV⟩;obtain ⟨O4,tU,vT⟩:=HW w2 w3 AR st;have HC:=AC (HR w3 _ _ _ _ O4 eV tU);have HD:=AC (fun w' a=>HF w3 w' _ _ _ _ O4 eV tU a vT);have HK3:=AC O4;clear st eV tU vT O4 Ag MA AH Aq DA AU BH DM BS Gl OK Dj OO R7 GV Qy Z_;go_wp2_with fail;refine HC.out.mono ?_;rintro e w4 ⟨rfl,b4⟩;have BK:=AB b4 HK3.out;obtain ⟨Dz,FK⟩:=DX BK;have HZ:=AC (HD w4 b4);clear b4 BK;go_wp2_with fail;refine bodyPost_ret (v:=.tuple #[]) (by simp[results,results233,go_sem]) rfl ?_;exact HZ.out
theorem X_(l r:Ht)(ih:j_ r)(v:Value)(F:List Nat)(i:Nat)(x y:Int)(w:World)(h:Dx w (.node l r) v F)(hf:(Ht.node l r).Fit)(fn:(Ht.node l r).Cd)(hn:(Ht.node l r).CW.Nodup)(hi:¬i<l.hs.length)(fD:i-l.hs.length<r.hs.length)(hx:RQ (x,y)):
 Calls prog 233 #[v,.int .i64 (i:Int),.agg #[.int .i64 x,.int .i64 y]] w (SL (.node l r) (.node l (r.setT (i-l.hs.length) (x,y))) v F w):=by
 have hm:=hf.most;rw[Ht.hs,length_append]at hm;obtain ⟨k,lv,rv,F1,F2,rfl,rfl,nl,nr,hk,hl,hr⟩:=id h;obtain ⟨ap,k1,k2⟩:=SW h hl hr hn;have HI:=AC (fun (w':World) (a:AA w w')=>ih rv F2 (i-l.hs.length) x y w' (hr.later a) fD hx)
 have HW:Hid (∀w2 w3,AA w w2->AZ (· ∈F2) w2 w3->w3.heap[k]?=some (.cells (Bm lv rv (.slice none 0 0) (.node l r)) 249)/\Dx w3 l lv F1/\AZ (· ∈k::(F1++F2)) w w3):=AC (fun w2 w3 a s=>
  ⟨s.own (AB a hk) k2,(hl.later a).stays s (fun b hb Hr=>ap b hb Hr),(AZ.of a).trans (s.wide (fun _ _ q=>by simp[q]))⟩)
 obtain ⟨t1,t2,t3,t4⟩:=Ht.GD r (i-l.hs.length) (x,y);have fl:=hf.right.setT fn.right (i-l.hs.length) hx;have f1:=fl.Ob;have f2:=hf.left.Ob;have v1:=fl.Ad;have v2:=hf.left.Ad;have e1:(r.setT (i-l.hs.length) (x,y)).hs.length=r.hs.length:=by rw[Ht.Gq,length_set]
 have VR:l.hs.length+(r.setT (i-l.hs.length) (x,y)).hs.length<=90000:=AD;have zQ:r.setT (i-l.hs.length) (x,y)≠.nil:=fun e=>nr (t3.1 e)
 have HR:Hid (∀(w3:World) (y3 y4 y5 y6:Value),w3.heap[k]?=some (.cells #[lv,rv,.slice none 0 0,y3,y4,y5,y6] 249)->Dx w3 l lv F1->Dx w3 (r.setT (i-l.hs.length) (x,y)) rv F2->Calls prog 260 #[.pointer (some ⟨k,0,none⟩)] w3 fun e w'=>e=.returned (.agg #[.int .i64 ((l.hs.length+(r.setT (i-l.hs.length) (x,y)).hs.length:Nat):Int),.int .i64 (DL l.hs+DL (r.setT (i-l.hs.length) (x,y)).hs),.int .i64 (DG l.hs+DG (r.setT (i-l.hs.length) (x,y)).hs),.int .i64 ((1+max l.Ad (r.setT (i-l.hs.length) (x,y)).Ad:Nat):Int)])/\AA w3 w'):=AC (fun w3 y3 y4 y5 y6 h1 h2 h3=>by
  obtain ⟨q1,a0,a1,a2,g1,g2⟩:=h2.D6 nl;obtain ⟨q2,b0,b1,b2,g3,g4⟩:=h3.D6 zQ;unfold Bm at g2 g4;rw[g1,g3]at h1;exact JS k q1 q2 (.slice none 0 0) _ _ _ _ a0 a1 a2 b0 b1 b2 _ _ _ _ _ _ _ _ w3 h1 g2 g4 VR ⟨v2,v1⟩ ⟨AD,AD⟩ ⟨AD,AD⟩)
 have HF:Hid (∀(w3 w':World) (y3 y4 y5 y6:Value),w3.heap[k]?=some (.cells #[lv,rv,.slice none 0 0,y3,y4,y5,y6] 249)->Dx w3 l lv F1->Dx w3 (r.setT (i-l.hs.length) (x,y)) rv F2->AA w3 w'->AZ (· ∈k::(F1++F2)) w w3->_):=AC (fun w3 w' y3 y4 y5 y6 h1 h2 h3 h4 h5=>SJ (l:=l) (r:=r) h2 h3 nl zQ h1 k1 k2 h4 h5);obtain ⟨p1,a0,a1,a2,rfl,h1⟩:=hl.D6 nl;obtain ⟨q2,rfl⟩:=hr.ptr;unfold Bm at hk h1 HW;have hj:((i-l.hs.length:Nat):Int)=(i:Int)-(l.hs.length:Int):=AD;rw[hj]at HI;have Ag:=hk;have MA:=h1;have d1:decide ((i:Int)-(l.hs.length:Int)<0)=false:=decide_eq_false AD;have d3:0<=(i:Int)-(l.hs.length:Int):=AD;have d4:(i:Int)-(l.hs.length:Int)<=90000:=AD;clear hl hr hk h1 h ih hf fn hn hx t1 t2 t3 t4 fl f1 f2 v1 v2 e1 VR zQ nl nr ap k1 k2 hi fD hj;generalize r.setT (i-l.hs.length) (x,y)=r2 at *;generalize l.hs.length+r2.hs.length=N at *;generalize DL l.hs+DL r2.hs=R at *;generalize DG l.hs+DG r2.hs=H at *;generalize 1+max l.Ad r2.Ad=M at *;generalize l.hs.length=n at *;obtain ⟨Bx,Wk⟩:=Rn Ag;obtain ⟨To,zk⟩:=Rn MA;go_enter func233,ntmps233;go_wp2_with fail;refine JL w (w.heap.size) (.cells #[.int .i64 x,.int .i64 y] 61) ?_;intro w1 AJ DA;have AG:=AJ;have AH:=AB AJ Ag;have Aq:=AB AJ MA;(try clear Bx);(try clear To);go_wp2_with fail;apply Ac (6) [] AY AY Ar
 case hstab=>
  intro e he v x y BE hv;simp only[mem_cons,not_mem_nil,or_false]at he
 case hlex=>
  intro U;have q0:=fun (v:BA (later U))=>AE (AB ⟨v,rfl⟩ (AB ⟨U,rfl⟩ AH))
  have q1:=fun (v:BA (later U))=>AE (AB ⟨v,rfl⟩ (AB ⟨U,rfl⟩ Aq))
  have q2:=fun (v:BA (later U))=>AE (AB ⟨v,rfl⟩ (AB ⟨U,rfl⟩ DA))
  refine Ku ?_
  repeat (go_big_quiet_step (fail))
  exact wpQuiet_nil rfl
 case hown=>
  intro e he o ho;simp only[mem_cons,not_mem_nil,or_false]at he
 case htail=>
  intro g u Aw Az;have AL:AA w1 (later u):=⟨u,rfl⟩;generalize later u=w2 at *;clear u;clear Aw Az;refine DH ?_;have AR:=AG.trans AL;have AU:=AB AL AH;have BH:=AB AL Aq;have DM:=AB AL DA;obtain ⟨BS,Dj,GV⟩:=GH AU;obtain ⟨Gl,OO,Qy⟩:=GH BH;obtain ⟨OK,R7,Z_⟩:=GH DM;go_wp2_with fail;refine (HI w2 AR).mono ?_;rintro e w3 ⟨rfl,st,tU⟩;obtain ⟨O4,eV,vT⟩:=HW w2 w3 AR st;have HC:=AC (HR w3 _ _ _ _ O4 eV tU);have HD:=AC (fun w' a=>HF w3 w' _ _ _ _ O4 eV tU a vT);have HK3:=AC O4;clear st eV tU vT O4 Ag MA AH Aq DA AU BH DM BS Gl OK Dj OO R7 GV Qy Z_;go_wp2_with fail;refine HC.out.mono ?_;rintro e w4 ⟨rfl,b4⟩;have BK:=AB b4 HK3.out;obtain ⟨Dz,FK⟩:=DX BK;have HZ:=AC (HD w4 b4);clear b4 BK;go_wp2_with fail;refine bodyPost_ret (v:=.tuple #[]) (by simp[results,results233,go_sem]) rfl ?_;exact HZ.out
theorem Pw:∀(t:Ht),t.Fit->t.Cd->t.CW.Nodup->j_ t
 |.nil,_,_,_,v,F,i,x,y,w,h,hi,hx=>by simp[Ht.hs]at hi
 |.leaf b l,hf,_,_,v,F,i,x,y,w,h,hi,hx=>d7 b l v F i x y w h hf hi hx
 |.node l r,hf,fn,hn,v,F,i,x,y,w,h,hi,hx=>by
  rw[Ht.hs,length_append]at hi;obtain ⟨n1,n2,_⟩:=List.nodup_append.1 (show (l.CW++r.CW).Nodup from hn);unfold Ht.setT;split
  ·rename_i hc
   exact bw l r (Pw l hf.left fn.left n1) v F i x y w h hf fn hn hc hx
  ·rename_i hc
   exact X_ l r (Pw r hf.right fn.right n2) v F i x y w h hf fn hn hc AD hx
def pB(w:World)(g:Nat)(t:Ht):Prop:=∃rv F,w.heap[g]?=some (.cells #[rv] 211)/\Dx w t rv F
def Oa(w:World)(v:Value)(t:Ht):Prop:=(v=.pointer none/\t=.nil)\/∃g,v=.pointer (some ⟨g,0,none⟩)/\pB w g t
theorem pB.later(h:pB w g t)(a:AA w w'):pB w' g t:=by
 obtain ⟨rv,F,h1,h2⟩:=h;exact ⟨rv,F,AB a h1,h2.later a⟩
theorem Oa.later{v:Value}(h:Oa w v t)(a:AA w w'):Oa w' v t:=by
 rcases h with h|⟨g,e,h⟩
 ·exact .inl h
 ·exact .inr ⟨g,e,h.later a⟩
theorem pB.Di(h:pB w g t):Oa w (.pointer (some ⟨g,0,none⟩)) t:=.inr ⟨g,rfl,h⟩
theorem Ht.Fit.nil:Ht.Fit .nil:=⟨trivial,D8.nil,Nat.zero_le _⟩
theorem Li(v:Value)(t:Ht)(w:World)(h:Oa w v t)(hf:t.Fit):Calls prog 164 #[v] w fun e w'=>e=.returned (.agg #[.int .i64 (t.hs.length:Int),.int .i64 (DL t.hs),.int .i64 (DG t.hs)])/\AA w w':=by
 rcases h with ⟨rfl,rfl⟩|⟨g,rfl,rv,F,hg,ht⟩
 ·go_enter func164,ntmps164;go_wp2_with fail;refine bodyPost_ret (v:=.agg #[.int .i64 0,.int .i64 0,.int .i64 0]) (by simp[results,results164,go_sem]) rfl ⟨rfl,?_⟩;exact BQ
 ·by_cases hn:t=.nil
  ·subst hn;obtain ⟨rfl,-⟩:=ht;obtain ⟨r0,l0⟩:=Rn hg;clear hg hf;go_enter func164,ntmps164;go_wp2_with fail;refine bodyPost_ret (v:=.agg #[.int .i64 0,.int .i64 0,.int .i64 0]) (by simp[results,results164,go_sem]) rfl ⟨rfl,?_⟩;exact BQ
  ·obtain ⟨k,a0,a1,a2,rfl,h1⟩:=ht.D6 hn;unfold Bm at h1;obtain ⟨r0,l0⟩:=Rn hg;obtain ⟨r1,l1⟩:=Rn h1;clear hg h1 ht hf hn;generalize t.hs.length=n at *;generalize DL t.hs=R at *;generalize DG t.hs=H at *;go_enter func164,ntmps164;go_wp2_with fail;refine bodyPost_ret (v:=.agg #[.int .i64 (n:Int),.int .i64 R,.int .i64 H]) (by simp[results,results164,go_sem]) rfl ⟨rfl,?_⟩;exact BQ
theorem vL(a b c:Int)(w:World):(Instr.index 206 (.agg #[.int .i64 a,.int .i64 b,.int .i64 c]) (.int .i64 0)).run prog w=.ok (.int .i64 a) w:=AY
theorem CX(v:Value)(t:Ht)(w:World)(h:Oa w v t)(hf:t.Fit):Calls prog 119 #[v] w fun e w'=>e=.returned (.int .i64 (t.hs.length:Int))/\AA w w':=by
 have HC:=AC (Li v t w h hf);clear h hf;generalize t.hs.length=n at *;generalize DL t.hs=R at *;generalize DG t.hs=H at *;have i0:=vL;go_enter func119,ntmps119;go_wp2_with fail;refine HC.out.mono ?_;rintro e w1 ⟨rfl,b1⟩;have HB:=AC b1;clear b1;go_wp2_with fail;go_ret;exact ⟨rfl,HB.out⟩
theorem F6(v:Value)(t:Ht)(i:Int)(c:Bool)(w:World)(hc:decide (0<=i/\i<t.hs.length)=c)(h:Oa w v t)(hf:t.Fit):Calls prog 165 #[v,.int .i64 i] w fun e w'=>e=.returned (.bool c)/\AA w w':=by
 have HL:=AC (fun (w':World) (a:AA w w')=>CX v t w' (h.later a) hf);clear h hf;by_cases h0:0<=i
 ·have HC:Hid (decide (i<(t.hs.length:Int))=c):=AC (by rw[<-hc];simp[h0]);clear hc;generalize t.hs.length=n at *;go_enter func165,ntmps165;go_wp2_with fail;refine (HL _ (AA.refl w)).mono ?_;rintro e w1 ⟨rfl,b1⟩;have HB:=AC b1;clear b1;go_wp2_with fail;go_ret;exact ⟨Am HC.out,HB.out⟩
 ·have HC:Hid (false=c):=AC (by rw[<-hc];simp[h0]);clear hc;go_enter func165,ntmps165;go_wp2_with fail;go_ret;exact ⟨Am HC.out,AA.refl _⟩
def NX(l:Qs)(i:Int):Value:=if h:0<=i/\i<l.length then .tuple #[.agg #[.int .i64 (l[i.toNat]'AD).1,.int .i64 (l[i.toNat]'AD).2],.bool true] else .tuple #[.agg #[.int .i64 0,.int .i64 0],.bool false]
theorem Zg(v:Value)(t:Ht)(i:Int)(w:World)(h:Oa w v t)(hf:t.Fit)(hi:¬(0<=i/\i<t.hs.length)):Calls prog 143 #[v,.int .i64 i] w fun e w'=>e=.returned (.tuple #[.agg #[.int .i64 0,.int .i64 0],.bool false])/\AA w w':=by
 have HH:=AC (fun (w':World) (a:AA w w')=>F6 v t i false w' (decide_eq_false hi) (h.later a) hf);clear h hf hi;go_enter func143,ntmps143;go_wp2_with fail;refine AQ (fun wS=>AA w wS/\wS.heap[w.heap.size]?=some (.cells #[.int .i64 0,.int .i64 0] 61)) ⟨BQ,CG⟩ ?_;rintro w1 ⟨AJ,AH⟩;have AG:=AJ;refine (HH _ AG).mono ?_;rintro e w2 ⟨rfl,AL⟩;have AR:=AG.trans AL;have AU:=AB AL AH;obtain ⟨BS,Dj⟩:=DX AU;go_wp2_with fail;refine bodyPost_ret (v:=.tuple #[.agg #[.int .i64 0,.int .i64 0],.bool false]) (by simp[results,results143,go_sem, *]) rfl ⟨rfl,?_⟩;exact BQ
theorem O2(l:Qs):Zs 0 l=(l.length:Int):=rfl
theorem X8(g:Nat)(t:Ht)(i:Nat)(w:World)(h:pB w g t)(hf:t.Fit)(hi:i<t.hs.length):Calls prog 143 #[.pointer (some ⟨g,0,none⟩),.int .i64 (i:Int)] w fun e w'=>e=.returned (.tuple #[.agg #[.int .i64 t.hs[i].1,.int .i64 t.hs[i].2],.bool true])/\AA w w':=by
 have HH:=AC (fun (w':World) (a:AA w w')=>F6 (.pointer (some ⟨g,0,none⟩)) t i true w' (decide_eq_true AD) (h.Di.later a) hf);obtain ⟨rv,F,hg,ht⟩:=h;have e:t.hs=t.hs.take i++(t.hs[i].1,t.hs[i].2)::t.hs.drop (i+1):=by
  conv=>lhs;rw[<-take_append_drop i t.hs]
  rw[List.drop_eq_getElem_cons hi]
 have HS:=AC (fun (w':World) (a:AA w w')=>jn t rv (i:Int) (t.hs.take i) (t.hs.drop (i+1)) t.hs[i].1 t.hs[i].2 w' (ht.later a).is0 hf e (by rw[O2,length_take];omega) (by rw[O2,length_append,length_take];simp;omega));obtain ⟨q,rfl⟩:=ht.ptr;have Ag:=hg;clear ht hf hg e;generalize t.hs[i].1=x at *;generalize t.hs[i].2=y at *;generalize (t.hs.take i).length=m at *;generalize DL (t.hs.take i)=R at *;generalize DG (t.hs.take i)=H at *;go_enter func143,ntmps143;go_wp2_with fail;refine AQ (fun wS=>AA w wS/\wS.heap[w.heap.size]?=some (.cells #[.int .i64 0,.int .i64 0] 61)) ⟨BQ,CG⟩ ?_;rintro w1 ⟨AJ,Aq⟩;have AG:=AJ;have AH:=AB AJ Ag;refine (HH _ AG).mono ?_;rintro e w2 ⟨rfl,AL⟩;have AR:=AG.trans AL;have AU:=AB AL AH;have BH:=AB AL Aq;have BS:=AE AU;go_wp2_with fail;refine (HS _ AR).mono ?_;rintro e w3 ⟨rfl,AX⟩;have An:=AR.trans AX;have BD:=AB AX BH;obtain ⟨Dm,FE,JI⟩:=GH BD;(try clear BS);go_wp2_with fail;refine bodyPost_ret (v:=.tuple #[.agg #[.int .i64 x,.int .i64 y],.bool true]) (by simp[results,results143,go_sem, *]) rfl ⟨rfl,?_⟩;exact BQ
theorem S4(v:Value)(t:Ht)(i:Int)(w:World)(r:Value)(hr:NX t.hs i=r)(h:Oa w v t)(hf:t.Fit):Calls prog 143 #[v,.int .i64 i] w fun e w'=>e=.returned r/\AA w w':=by
 subst hr;unfold NX;split
 ·rename_i hi
  obtain ⟨n,rfl⟩:=Int.eq_ofNat_of_zero_le hi.1;rcases h with ⟨rfl,rfl⟩|⟨g,rfl,h⟩
  ·have h2:=hi.2;rw[show (Ht.nil.hs.length:Int)=0 from rfl]at h2;omega
  ·exact X8 g t n w h hf AD
 ·rename_i hi
  exact Zg v t i w h hf hi
def JR(l:Qs)(i:Int):Nat:=(Cq i 0 l.length).toNat
theorem mQ(l:Qs)(i:Int):JR l i<=l.length/\Cq i 0 l.length=(JR l i:Int):=by
 unfold JR Cq;split
 ·omega
 ·split <;> omega
theorem dL(v:Value)(t:Ht)(i:Int)(w:World)(R H:Int)(hR:DL (t.hs.take (JR t.hs i))=R)(hH:DG (t.hs.take (JR t.hs i))=H)(h:Oa w v t)(hf:t.Fit):Calls prog 118 #[v,.int .i64 i] w fun e w'=>e=.returned (.agg #[.int .i64 R,.int .i64 H])/\AA w w':=by
 obtain ⟨hle,OW⟩:=mQ t.hs i;have HL:=AC (fun (w':World) (a:AA w w')=>CX v t w' (h.later a) hf);have HC:=AC (fun (w':World) (a:AA w w')=>Li v t w' (h.later a) hf);have HK:=AC (fun (w':World)=>DT (Mp i 0 (t.hs.length:Int) w' _ OW));generalize JR t.hs i=m at *;by_cases hm:m<t.hs.length
 ·have hn:t≠.nil:=fun e=>by rw[e]at hm;simp[Ht.hs]at hm
  rcases h with ⟨-,e⟩|⟨g,rfl,h⟩
  ·exact absurd e hn
  ·have HH:=AC (fun (w':World) (a:AA w w')=>F6 (.pointer (some ⟨g,0,none⟩)) t (m:Int) true w' (decide_eq_true AD) (h.Di.later a) hf);obtain ⟨rv,F,hg,ht⟩:=h;have e:t.hs=t.hs.take m++(t.hs[m].1,t.hs[m].2)::t.hs.drop (m+1):=by
    conv=>lhs;rw[<-take_append_drop m t.hs]
    rw[List.drop_eq_getElem_cons hm]
   have HS:=AC (fun (w':World) (a:AA w w')=>jn t rv (m:Int) (t.hs.take m) (t.hs.drop (m+1)) t.hs[m].1 t.hs[m].2 w' (ht.later a).is0 hf e (by rw[O2,length_take];omega) (by rw[O2,length_append,length_take];simp;omega));rw[hR,hH]at HS;obtain ⟨q,rfl⟩:=ht.ptr;have Ag:=hg;clear ht hf hg e hR hH hle OW hn;generalize t.hs[m].1=x at *;generalize t.hs[m].2=y at *;generalize (t.hs.take m).length=m2 at *;generalize t.hs.length=n at *;generalize DL t.hs=R0 at *;generalize DG t.hs=H0 at *;go_enter func118,ntmps118;go_wp2_with fail;refine AQ (fun wS=>AA w wS/\wS.heap[w.heap.size]?=some (.cells #[.int .i64 0,.int .i64 0] 61)) ⟨BQ,CG⟩ ?_;rintro w1 ⟨AJ,Aq⟩;have AG:=AJ;have AH:=AB AJ Ag;refine (HL _ AG).mono ?_;rintro e w2 ⟨rfl,AL⟩;have AR:=AG.trans AL;have AU:=AB AL AH;have BH:=AB AL Aq;go_wp2_with fail;refine (HK _).mono ?_;rintro e w3 ⟨rfl,AX⟩;have An:=AR.trans AX;have Ah:=AB AX AU;have BD:=AB AX BH;go_wp2_with fail;refine (HC _ An).mono ?_;rintro e w4 ⟨rfl,Ao⟩;have Bl:=An.trans Ao;have BK:=AB Ao Ah;have CE:=AB Ao BD;have ph:=As CE;go_wp2_with fail;refine AQ (fun wS=>AA w4 wS/\wS.heap[w4.heap.size]?=some (.cells #[.int .i64 (n:Int),.int .i64 R0,.int .i64 H0] 206)) ⟨BQ,CG⟩ ?_;rintro w5 ⟨Bd,wQ⟩;have DW:=Bl.trans Bd;have DD:=AB Bd BK;have J2:=AB Bd CE;refine (HH _ DW).mono ?_;rintro e w6 ⟨rfl,Ec⟩;have IV:=DW.trans Ec;have Lv:=AB Ec DD;have R8:=AB Ec J2;have PC:=AB Ec wQ;obtain ⟨W8,WU⟩:=DX Lv;have kM:=AE R8;go_wp2_with fail;refine (HS _ IV).mono ?_;rintro e w7 ⟨rfl,Fp⟩;have RO:=IV.trans Fp;have kg:=AB Fp R8;have wU:=AB Fp PC;obtain ⟨vP,J17⟩:=DX kg;obtain ⟨X16,Z18⟩:=DX wU;(try clear W8 WU);(try clear kM);go_wp2_with fail;refine bodyPost_ret (v:=.agg #[.int .i64 R,.int .i64 H]) (by simp[results,results118,go_sem, *]) rfl ⟨rfl,?_⟩;exact BQ
 ·obtain rfl:m=t.hs.length:=AD
  rw[List.take_length]at hR hH;have HH:=AC (fun (w':World) (a:AA w w')=>F6 v t (t.hs.length:Int) false w' (decide_eq_false AD) (h.later a) hf);rw[hR,hH]at HC;clear h hf hR hH hle OW hm;generalize t.hs.length=n at *;go_enter func118,ntmps118;go_wp2_with fail;refine AQ (fun wS=>AA w wS/\wS.heap[w.heap.size]?=some (.cells #[.int .i64 0,.int .i64 0] 61)) ⟨BQ,CG⟩ ?_;rintro w1 ⟨AJ,AH⟩;have AG:=AJ;refine (HL _ AG).mono ?_;rintro e w2 ⟨rfl,AL⟩;have AR:=AG.trans AL;have AU:=AB AL AH;go_wp2_with fail;refine (HK _).mono ?_;rintro e w3 ⟨rfl,AX⟩;have An:=AR.trans AX;have Ah:=AB AX AU;go_wp2_with fail;refine (HC _ An).mono ?_;rintro e w4 ⟨rfl,Ao⟩;have Bl:=An.trans Ao;have BK:=AB Ao Ah;go_wp2_with fail;refine AQ (fun wS=>AA w4 wS/\wS.heap[w4.heap.size]?=some (.cells #[.int .i64 (n:Int),.int .i64 R,.int .i64 H] 206)) ⟨BQ,CG⟩ ?_;rintro w5 ⟨Bd,J2⟩;have DW:=Bl.trans Bd;have DD:=AB Bd BK;refine (HH _ DW).mono ?_;rintro e w6 ⟨rfl,Ec⟩;have IV:=DW.trans Ec;have Lv:=AB Ec DD;have R8:=AB Ec J2;obtain ⟨W8,WU⟩:=DX Lv;have kM:=AE R8;go_wp2_with fail;refine bodyPost_ret (v:=.agg #[.int .i64 R,.int .i64 H]) (by simp[results,results118,go_sem, *]) rfl ⟨rfl,?_⟩;exact BQ
end
end Go.Proofs.YtamhnffokoejjaaGreatDoor
