import Derived.Test.YtamhnffokoejjaaGreatDoorKwaw
set_option linter.all false
set_option maxHeartbeats 3200000
set_option maxRecDepth 100000
namespace Go.Proofs.YtamhnffokoejjaaGreatDoor
open List(length_append take_of_length_le replicate length_take append_nil length_drop take_nil length_nil length_cons)
open Nat(le_of_eq eq_zero_or_pos le_trans le_refl zero_le)
open Go.Proofs.Tryz
open Go.RowKit
section
variable{l m:Aa}{n s:Int}{F T j:Nat}{w:World}
theorem ol{k:Nat}(hj:j<l.length)(hl:l[j]=(n,s))(hf:CY (n,s)=true)(h1:(AM (l.take j)).length<=k)(h2:(k:Int)<(AM (l.take j)).length+n):(AM l).getD k 0=s:=by
 have e:AM l=AM (l.take j)++(DY (n,s)++AM (l.drop (j+1))):=by
  conv=>lhs;rw[<-List.take_append_drop (j+1) l,Bw,Dn hj,hl]
  rw[List.append_assoc]
 obtain ⟨e1,e2⟩:=Uw hf;rw[e,List.getD_eq_getElem?_getD,List.getElem?_append_right h1,e1,List.getElem?_append_left (by rw[List.length_replicate];omega),List.getElem?_replicate,if_pos AD];rfl
theorem bV(b off n cap i N:Nat)(l:Aa)(w:World)(c:Int)(Eu:(AM l).getD i 0=c)(UW:(sR l).length=N)(hiN:i<N)(hl:l.length=n)(hn:n<=90000)(hN:CV l)(hb:b<w.heap.size)(hc:∀(j:Nat) (h:j<l.length),w.cell? ⟨b,off+j*2,none⟩=some (.int .i64 l[j].1)/\w.cell? ⟨b,off+j*2+1,none⟩=some (.int .i64 l[j].2)):
 Calls prog 171 #[.slice (some ⟨b,off,none⟩) n cap,.int .i64 (i:Int)] w fun e w'=>e=.returned (.int .i64 c)/\AA w w':=by
 have hs:(AM l).length=N/\N<=16777216:=by
  have h1:=Jn l;unfold sR at UW h1;split at UW
  ·rename_i h;rw[if_pos h]at h1;exact ⟨UW,AD⟩
  ·simp at UW;omega
 have Dw:=AC (LP b off n cap l w N UW hl hn hN hb hc);have HL:=AC hl;have HC:=AC hc;have Kk:=AC Eu;have J3:=AC hN;have RA:=AC hs.1;have zq:=AC (fun (j:Nat) (n s:Int) (hj:j<l.length) (hl:l[j]=(n,s))=>ol (k:=i) hj hl);have tq:=hs.2;clear hl hc Eu hN hs UW;have q1:((i:Int)<0)=False:=Ar;have q2:decide (N<=i)=false:=decide_eq_false AD;have q3:i<16777216:=AD;go_enter func171,ntmps171;go_wp2_with (go_at_call 65;refine Dw.out.mono ?_;rintro e w0 ⟨rfl,b0⟩;have Jl:=AC b0;clear b0)
 go_loopg [5,18] n (fun k s i' wr=>AA w wr/\∃j:Nat,k=n-j/\j<=n/\i'=.int .i64 j/\∃t:Nat,s=.int .i64 t/\(AM (l.take j)).length=t/\t<=i)
 case atStart=>exact ⟨Jl.out,0,AD,AD,rfl,0,rfl,rfl,AD⟩
 case round=>
  obtain ⟨AW,j,hk,hj,rfl,t,rfl,ht,nt⟩:=hrel;have HT:=AC ht;clear ht;by_cases BN:j<n
  ·have lj:j<l.length:=by rw[HL.out];exact BN
   have c0:wr.cell? ⟨b,off+j*2,none⟩=some (.int .i64 l[j].1):=(AW.below.cell hb).trans (HC j lj).1;have c1:wr.cell? ⟨b,off+j*2+1,none⟩=some (.int .i64 l[j].2):=(AW.below.cell hb).trans (HC j lj).2;have HS:=AC (Dn lj);have hx:=J3 l[j] (List.getElem_mem lj);have HO:Hid (((DY l[j]).length:Int)=if CY l[j] then l[j].1 else 0):=AC FG;have HAJ:Hid (∀n s:Int,l[j]=(n,s)->CY (n,s)=true->(AM (l.take j)).length<=i->(i:Int)<(AM (l.take j)).length+n->(AM l).getD i 0=s):=AC (fun n s h=>zq j n s lj h);generalize l[j]=x at *;obtain ⟨f,s⟩:=x;simp only at c0 c1 hx HO
   have LY:=AC (AW.alloc (.cells #[.int .i64 f,.int .i64 s] 76));clear AW
   cases hf:CY (f,s) with
   |true=>
    have HF:=AC (fun w=>GR f s w true hf hx.1 hx.2);have HFT:=AC hf;obtain ⟨f1,f2,_⟩:=Cz hf;simp only at f1 f2
    have N9:Hid (((DY (f,s)).length:Int)=f):=AC (by rw[HO.out,hf];rfl);clear hf hx HO;by_cases hg:(i:Int)<(t:Int)+f
    ·have HZ:Hid (s=c):=AC (by
      rw[<-Kk.out];exact (HAJ f s rfl HFT (by rw[HT.out];omega) (by rw[HT.out];omega)).symm)
     go_wp2_with (go_at_call 88;refine (HF _).mono ?_;rintro e w1 ⟨rfl,b1⟩;obtain ⟨e0,e1⟩:=Eb b1;have Ej:=AC (LY.out.trans b1);clear b1)
     go_ret;exact ⟨CZ HZ.out,Ej.out⟩
    ·have hgf:decide ((i:Int)<(t:Int)+f)=false:=decide_eq_false hg;go_wp2_with (go_at_call 88;refine (HF _).mono ?_;rintro e w1 ⟨rfl,b1⟩;obtain ⟨e0,e1⟩:=Eb b1;have Ej:=AC (LY.out.trans b1);clear b1)
     go_roundg (n-(j+1))
     case measure=>omega
     case rel=>exact ⟨Ej.out,j+1,rfl,BN,by go_num,t+f.toNat,by go_num,by rw[HS.out,length_append,HT.out];have:=N9.out;omega,AD⟩
   |false=>
    have HF:=AC (fun w=>GR f s w false hf hx.1 hx.2);have N9:Hid (((DY (f,s)).length:Int)=0):=AC (by rw[HO.out,hf];rfl);clear hf hx HO;go_wp2_with (go_at_call 88;refine (HF _).mono ?_;rintro e w1 ⟨rfl,b1⟩;have Ej:=AC (LY.out.trans b1);clear b1)
    go_roundg (n-(j+1))
    case measure=>omega
    case rel=>exact ⟨Ej.out,j+1,rfl,BN,by go_num,t,rfl,by rw[HS.out,length_append,HT.out];have:=N9.out;omega,nt⟩
  ·obtain rfl:j=n:=AD
   exfalso;have h1:=HT.out;rw[take_of_length_le (le_of_eq HL.out),RA.out]at h1;omega
theorem Zb(v:Value)(i:Int)(w:World)(hi:i<0):Calls prog 171 #[v,.int .i64 i] w fun e w'=>e=.returned (.int .i64 0)/\w=w':=by
 go_enter func171,ntmps171;go_wp2_with fail;go_ret;exact ⟨rfl,rfl⟩
theorem Xu(v:Value)(l:Aa)(i:Int)(N:Nat)(w:World)(hi:0<=i)(UW:(sR l).length=N)(hiN:(N:Int)<=i)(h:FH w v l)(hN:CV l)(hn:l.length<=90000):Calls prog 171 #[v,.int .i64 i] w fun e w'=>e=.returned (.int .i64 0)/\AA w w':=by
 have Dw:=AC (EE v l w N UW h hN hn);have q1:decide (i<0)=false:=decide_eq_false AD;clear h hN hn UW;go_enter func171,ntmps171;go_wp2_with (go_at_call 65;refine Dw.out.mono ?_;rintro e w0 ⟨rfl,b0⟩;have Jl:=AC b0;clear b0)
 go_ret;exact ⟨rfl,Jl.out⟩
theorem Qb(v:Value)(l:Aa)(i c:Int)(w:World)(hc:uB l i=c)(h:FH w v l)(hN:CV l)(hn:l.length<=90000):Calls prog 171 #[v,.int .i64 i] w fun e w'=>e=.returned (.int .i64 c)/\AA w w':=by
 by_cases h0:i<0
 ·obtain rfl:0=c:=by rw[<-hc];unfold uB;rw[if_neg AD]
  exact DT (Zb v i w h0)
 ·by_cases h1:((sR l).length:Int)<=i
  ·obtain rfl:0=c:=by
    rw[<-hc];unfold uB;rw[if_pos AD,List.getD_eq_getElem?_getD,List.getElem?_eq_none AD];rfl
   exact Xu v l i _ w AD rfl h1 h hN hn
  ·obtain ⟨k,rfl⟩:=Int.eq_ofNat_of_zero_le (show 0<=i by omega);obtain ⟨A,cap,rfl,h2,h3⟩:=h;rcases eq_zero_or_pos l.length with hz|hz
   ·obtain rfl:=List.eq_nil_of_length_eq_zero hz
    exact absurd (Int.natCast_nonneg k) h1
   ·obtain ⟨b,off,rfl,hb,Eu⟩:=h3 hz;refine bV b off _ cap k _ l w c ?_ rfl AD rfl hn hN hb Eu;rw[<-hc];unfold uB;have hs:sR l=AM l:=by
     unfold sR;split
     ·rfl
     ·rename_i h;exfalso;unfold sR at h1;rw[if_neg h]at h1;simp at h1
    rw[if_pos AD,hs];rfl
theorem lu(b off n cap b2 Km BP:Nat)(l l2:Aa)(w:World)(hl:l.length=n)(IY:l2.length=n)(hn:n<=100000)(hc:∀(j:Nat) (h:j<l.length),w.cell? ⟨b,off+j*2,none⟩=some (.int .i64 l[j].1)/\w.cell? ⟨b,off+j*2+1,none⟩=some (.int .i64 l[j].2))
 (D4:∀(j:Nat) (h:j<l2.length),w.cell? ⟨b2,Km+j*2,none⟩=some (.int .i64 l2[j].1)/\w.cell? ⟨b2,Km+j*2+1,none⟩=some (.int .i64 l2[j].2)) (hb:b<w.heap.size) (Hr:b2<w.heap.size):
 Calls prog 105 #[.slice (some ⟨b,off,none⟩) n cap,.slice (some ⟨b2,Km,none⟩) n BP] w fun e w'=>e=.returned (.bool (decide (l=l2)))/\AA w w':=by
 have HL:=AC hl;have UT:=AC IY;have HC:=AC hc;have Hw:=AC D4;have gb:=Ry;have nb:=lY;clear hl hc IY D4;go_enter func105,ntmps105;go_wp2_with fail;go_loopg [13] n (fun k i wr=>AA w wr/\∃j:Nat,k=n-j/\j<=n/\i=.int .i64 j/\l.take j=l2.take j)
 case atStart=>exact ⟨AA.refl _,0,AD,AD,rfl,Ar⟩
 case round=>
  obtain ⟨AW,j,hk,hj,rfl,hf⟩:=hrel;have HF:=AC hf;have HA:=AC AW;clear hf;by_cases BN:j<n
  ·have lj:j<l.length:=by rw[HL.out];exact BN
   have rh:j<l2.length:=by rw[UT.out];exact BN
   have i1:(j:Int)<(n:Int):=AD;have c0:wr.cell? ⟨b,off+j*2,none⟩=some (.int .i64 l[j].1):=(AW.below.cell hb).trans (HC j lj).1;have c1:wr.cell? ⟨b,off+j*2+1,none⟩=some (.int .i64 l[j].2):=(AW.below.cell hb).trans (HC j lj).2;have d0:wr.cell? ⟨b2,Km+j*2,none⟩=some (.int .i64 l2[j].1):=(AW.below.cell Hr).trans (Hw j rh).1;have d1:wr.cell? ⟨b2,Km+j*2+1,none⟩=some (.int .i64 l2[j].2):=(AW.below.cell Hr).trans (Hw j rh).2;have HT:Hid (l.take (j+1)=l.take j++[l[j]]/\l2.take (j+1)=l2.take j++[l2[j]]):=AC ⟨List.take_succ_eq_append_getElem lj,List.take_succ_eq_append_getElem rh⟩;have HD:Hid (l[j]≠l2[j]->decide (l=l2)=false):=AC (fun hx=>decide_eq_false (fun e=>hx (by subst e;rfl)));generalize l[j]=x at *;generalize l2[j]=x2 at *;obtain ⟨f,t⟩:=x;obtain ⟨f2,t2⟩:=x2;simp only at c0 c1 d0 d1
   clear AW;by_cases h:f=f2/\t=t2
   ·obtain ⟨rfl,rfl⟩:=h;go_wp2_with fail
    go_quiet (fail)
    go_wp2_with fail;go_roundg (n-(j+1))
    case measure=>omega
    case rel=>exact ⟨HA.out.drewN _,j+1,rfl,BN,by go_num,by rw[HT.out.1,HT.out.2,HF.out]⟩
   ·have hd:(f == f2 && t == t2)=false:=by
     rw[Bool.and_eq_false_iff];by_cases h1:f=f2
     ·right;simp;exact fun e=>h ⟨h1,e⟩
     ·left;simpa using h1
    have Q:=AC (HD (fun e=>h ⟨(Prod.mk.inj e).1,(Prod.mk.inj e).2⟩));clear h HD HT;go_wp2_with fail
    go_quiet (fail)
    go_wp2_with fail;go_ret;exact ⟨Am Q.out.symm,HA.out.drewN _⟩
  ·obtain rfl:j=n:=AD
   have Q:Hid (decide (l=l2)=true):=AC (decide_eq_true (by
    have:=HF.out
    rwa [take_of_length_le (le_of_eq HL.out),take_of_length_le (le_of_eq UT.out)]at this))
   clear AW;go_wp2_with fail;go_ret;exact ⟨Am Q.out.symm,HA.out⟩
theorem fC(A A2:Option Addr)(n n2 cap BP:Nat)(w:World)(h:n≠n2):
 Calls prog 105 #[.slice A n cap,.slice A2 n2 BP] w fun e w'=>e=.returned (.bool false)/\w=w':=by
 have h1:((n:Int) != (n2:Int))=true:=by simp;omega
 clear h;go_enter func105,ntmps105;go_wp2_with fail;go_ret;exact ⟨rfl,rfl⟩
theorem gK(A A2:Option Addr)(cap BP:Nat)(w:World):
 Calls prog 105 #[.slice A 0 cap,.slice A2 0 BP] w fun e w'=>e=.returned (.bool true)/\w=w':=by
 go_enter func105,ntmps105;go_wp2_with fail;refine wp_loop_rounds 1 ?_;rw[rounds_succ];go_wp2_with fail;go_ret;exact ⟨rfl,rfl⟩
theorem oP(v v2:Value)(l l2:Aa)(w:World)(c:Bool)(Eu:decide (l=l2)=c)(h:FH w v l)(h2:FH w v2 l2)(hn:l.length<=100000):
 Calls prog 105 #[v,v2] w fun e w'=>e=.returned (.bool c)/\AA w w':=by
 subst Eu;obtain ⟨A,cap,rfl,k1,k2⟩:=h;obtain ⟨A2,BP,rfl,m1,m2⟩:=h2;by_cases hl:l.length=l2.length
 ·rcases eq_zero_or_pos l.length with h0|h0
  ·obtain rfl:=List.eq_nil_of_length_eq_zero h0
   obtain rfl:=List.eq_nil_of_length_eq_zero (hl.symm.trans h0)
   exact DT (gK A A2 cap BP w)
  ·obtain ⟨b,off,rfl,hb,hc⟩:=k2 h0;obtain ⟨b2,Km,rfl,Hr,D4⟩:=m2 AD;rw[<-hl];exact lu b off _ cap b2 Km BP l l2 w rfl hl.symm hn hc D4 hb Hr
 ·have e:decide (l=l2)=false:=decide_eq_false (fun e=>hl (by rw[e]));rw[e];exact DT (fC A A2 _ _ cap BP w hl)
theorem Xd(v:Value)(l:Aa)(c:Bool)(w:World)(hc:decide (Cn l=l)=c)(h:FH w v l)(hN:CV l)(hn:l.length<=90000):Calls prog 64 #[v] w fun e w'=>e=.returned (.bool c)/\AA w w':=by
 have HT:=AC (I_ v l w h hN hn);have HE:Hid (∀(w1:World) (u:Value),AA w w1->FH w1 u (Cn l)->Calls prog 105 #[v,u] w1 fun e w'=>e=.returned (.bool c)/\AA w1 w'):=
  AC (fun w1 u ha hu=>oP v u l (Cn l) w1 c (by rw[<-hc];exact decide_eq_decide.2 eq_comm) (h.later ha) hu AD)
 clear h hN hn hc;go_enter func64,ntmps64;go_wp2_with fail;refine HT.out.mono ?_;rintro e w1 ⟨u,rfl,b1,o1⟩;have qM:=AC (HE w1 u b1 o1.reads);have El:=AC b1;clear b1 o1;go_wp2_with (go_at_call 105;refine qM.out.mono ?_;rintro e w2 ⟨rfl,b2⟩;have FA:=AC (El.out.trans b2);clear b2)
 go_ret;exact ⟨rfl,FA.out⟩
theorem JX(n:Int)(N:Nat):Cm n 0 (N:Int)=((De n N:Nat):Int):=by
 unfold Cm De;split
 ·omega
 ·split <;> omega
theorem LC(n:Int)(N:Nat):De n N<=N:=by unfold De;omega
theorem dG{D:List Int}{n:Nat}(h:D.length<T):((D++replicate n s).take T).drop F=(D.take T).drop F++replicate (min (T-D.length) n-(F-D.length)) s:=by
 rw[List.take_append,List.drop_append,List.take_replicate,List.drop_replicate,length_take,Nat.min_eq_right (Nat.le_of_lt h)]
theorem bt(h:T<=(AM (l.take j)).length):(AM l).take T=(AM (l.take j)).take T:=by
 conv=>lhs;rw[<-List.take_append_drop j l,Bw,List.take_append_of_le_length h]
theorem jc{t n:Nat}(h:t<T):Cm (T:Int) (t:Int) ((t:Int)+n)-Cm (F:Int) (t:Int) ((t:Int)+n)=((min (T-t) n:Nat):Int)-((min (F-t) n:Nat):Int):=by
 have h1:Cm (T:Int) (t:Int) ((t:Int)+n)=(t:Int)+((min (T-t) n:Nat):Int):=by
  unfold Cm;rw[if_neg AD];split <;> omega
 have h2:Cm (F:Int) (t:Int) ((t:Int)+n)=(t:Int)+((min (F-t) n:Nat):Int):=by
  unfold Cm;split
  ·omega
  ·split <;> omega
 omega
theorem Ns(h1:1<=n)(h2:n<=16777216)(h3:BL s=true):DY (n,s)=replicate n.toNat s:=by
 unfold DY CY;rw[if_pos];rw[Bool.and_eq_true,decide_eq_true_eq];exact ⟨⟨h1,h2⟩,h3⟩
theorem QN(h:CV m)(h1:BO n)(h2:BO s):CV (m++[(n,s)]):=fun r hr=>by
 rcases List.mem_append.1 hr with hr|hr
 ·exact h r hr
 ·cases List.mem_singleton.1 hr
  exact ⟨h1,h2⟩
theorem UJ{r:Int × Int}:AM (m++[r])=AM m++DY r:=by
 rw[Bw,Cr,GK,append_nil]
theorem YL(b off n cap N T F:Nat)(l m:Aa)(f q:Int)(w:World)(hm:Em l f q=m)(UW:(sR l).length=N)(hT:De q N=T)(hF:De f N=F)(hl:l.length=n)(hn:n<=90000)(hN:CV l)(hb:b<w.heap.size)(hc:∀(j:Nat) (h:j<l.length),w.cell? ⟨b,off+j*2,none⟩=some (.int .i64 l[j].1)/\w.cell? ⟨b,off+j*2+1,none⟩=some (.int .i64 l[j].2)):
 Calls prog 128 #[.slice (some ⟨b,off,none⟩) n cap,.int .i64 f,.int .i64 q] w (JZ w m):=by
 have hTN:T<=N:=by rw[<-hT];exact LC q N
 have hFN:F<=N:=by rw[<-hF];exact LC f N
 have hNN:N<=16777216:=by rw[<-UW];exact Jn l
 have QW:0<T->sR l=AM l:=fun h=>by
  unfold sR at UW ⊢;split
  ·rfl
  ·rename_i hx;rw[if_neg hx]at UW;simp at UW;omega
 have Dw:=AC (LP b off n cap l w N UW hl hn hN hb hc);have Q6:=AC (fun w=>F0 f 0 N w (F:Int) (by rw[JX,hF]));have Hw:=AC (fun w=>F0 q 0 N w (T:Int) (by rw[JX,hT]));have HL:=AC hl;have HC:=AC hc;have J3:=AC hN;have vJ:Hid (0<T->∀j,(AM (l.take j)).length<=16777216):=AC (fun h j=>le_trans (I8 l j) (by rw[<-QW h,UW];exact hNN));have HM:Hid (BM (((AM l).take T).drop F)=m):=AC (by
  rw[<-hm];unfold Em IG;rw[UW,hT,hF];rcases eq_zero_or_pos T with h|h
  ·rw[h,List.take_zero,List.take_zero]
  ·rw[QW h])
 have HD:=AC (fun j=> @bt l T j);have tZ:Hid (((AM l).take T).length<=16777216):=AC (by rw[length_take];omega);clear hl hc hN QW hm UW hT hF;go_enter func128,ntmps128;go_wp2_with fail;refine Dw.out.mono ?_;rintro e w0 ⟨rfl,b0⟩;have Jl:=AC b0;clear b0;go_wp2_with fail;refine (Q6 _).mono ?_;rintro e wx ⟨rfl,rfl⟩;go_wp2_with fail;refine (Hw _).mono ?_;rintro e wx ⟨rfl,rfl⟩;go_wp2_with fail;have HTI:=AC (fun w v O (h:FH w v O) (hN:CV O) (hn:O.length<=90000)=>I_ v O w h hN hn);have HTO:Hid (∀O:Aa,AM O=((AM l).take T).drop F->Cn O=m):=AC (fun O h=>by
  unfold Cn;rw[GY (by rw[h,length_drop];have:=tZ.out;omega),h,HM.out])
 go_loopg [8,9,24] n (fun k v s i wr=>∃j:Nat,k=n-j/\j<=n/\i=.int .i64 j/\AA w wr/\(∃t:Nat,s=.int .i64 t/\(AM (l.take j)).length=t/\t<=16777216)/\∃O,Ge wr w.heap.size v O/\CV O/\O.length<=j/\AM O=((AM (l.take j)).take T).drop F)
 case atStart=>exact ⟨0,AD,AD,rfl,Jl.out,⟨0,rfl,rfl,AD⟩,[],IL _ _,(fun r hr=>by cases hr),Ar,by simp[AM]⟩
 case round=>
  obtain ⟨j,hk,hj,rfl,ha,⟨t,rfl,ht,nt⟩,O,ho,oG,vI,hOS⟩:=hrel;have HT:=AC ht;have HA:=AC ha;have yj:=AC hOS;have tN:O.length<=90000:=AD;obtain ⟨A9,yT,rfl,uM,_⟩:=ho.reads;clear ht hOS uM;by_cases BN:j<n
  ·have lj:j<l.length:=by rw[HL.out];exact BN
   have c0:wr.cell? ⟨b,off+j*2,none⟩=some (.int .i64 l[j].1):=(ha.below.cell hb).trans (HC j lj).1;have c1:wr.cell? ⟨b,off+j*2+1,none⟩=some (.int .i64 l[j].2):=(ha.below.cell hb).trans (HC j lj).2;have HS:=AC (Dn lj);have hx:=J3 l[j] (List.getElem_mem lj);have HO:Hid (((DY l[j]).length:Int)=if CY l[j] then l[j].1 else 0):=AC FG;generalize l[j]=x at *;obtain ⟨f',s⟩:=x;simp only at c0 c1 hx HO
   by_cases xb:T<=t
   ·have rW:Hid (Cn O=m):=AC (HTO O (by rw[yj.out,HD j (by rw[HT.out];exact xb)]));have LY:Hid (∀c,AA wr (wr.alloc (.cells c 76))):=AC (fun c=>(AA.refl wr).alloc _);have HX:=AC (fun w' (h:AA wr w')=>HTI w' (.slice A9 O.length yT) O (ho.later h).reads oG tN);rw[rW.out]at HX;clear ho oG vI hx HO ha;go_wp2_with fail;refine (HX _ (LY _)).mono ?_;rintro e wz ⟨u,rfl,b9,o9⟩;have HZ:=AC (And.intro (HA.out.trans ((LY _).trans b9)) (o9.wide (HA.out.trans (LY _)).below.size));clear b9 o9;go_wp2_with fail;go_ret;exact ⟨_,rfl,HZ.out⟩
   ·have hbf:decide (T<=t)=false:=decide_eq_false xb;have LY:=AC ((AA.refl wr).alloc (.cells #[.int .i64 f',.int .i64 s] 76))
    cases hf:CY (f',s) with
    |true=>
     have HF:=AC (fun w=>GR f' s w true hf hx.1 hx.2);obtain ⟨f1,f2,yH⟩:=Cz hf;simp only at f1 f2 yH
     have N9:Hid (((DY (f',s)).length:Int)=f'):=AC (by rw[HO.out,hf];rfl);have HGS:=AC yH;obtain ⟨k',rfl⟩:=Int.eq_ofNat_of_zero_le (show 0<=f' by omega);have RA:Hid (((AM (l.take (j+1))).take T).drop F=AM O++replicate (min (T-t) k'-(F-t)) s):=AC (by
      rw[HS.out,yj.out,Ns f1 f2 yH];have:=dG (D:=AM (l.take j)) (T:=T) (F:=F) (n:=k') (s:=s) (by rw[HT.out];omega)
      rw[HT.out]at this;exact this)
     have sc:t+k'<=16777216:=by
      have:=vJ AD (j+1)
      rw[HS.out,length_append,HT.out]at this;have:=N9.out
      omega
     have qq:Hid ((AM (l.take (j+1))).length=t+k'):=AC (by rw[HS.out,length_append,HT.out];have:=N9.out;omega);have tq:CV O:=oG;have yU:=AC oG;have HP:=AC (jc (t:=t) (T:=T) (F:=F) (n:=k') AD);have H1:=AC (fun w=>F0 (T:Int) (t:Int) ((t:Int)+(k':Int)) w _ rfl);have H2:=AC (fun w=>F0 (F:Int) (t:Int) ((t:Int)+(k':Int)) w _ rfl);have z1:(t:Int)<=Cm (T:Int) (t:Int) ((t:Int)+(k':Int))/\Cm (T:Int) (t:Int) ((t:Int)+(k':Int))<=16777216:=by
      unfold Cm;split <;> try split
      all_goals omega
     have z2:(t:Int)<=Cm (F:Int) (t:Int) ((t:Int)+(k':Int))/\Cm (F:Int) (t:Int) ((t:Int)+(k':Int))<=16777216:=by
      unfold Cm;split <;> try split
      all_goals omega
     generalize Cm (T:Int) (t:Int) ((t:Int)+(k':Int))=p1 at *;generalize Cm (F:Int) (t:Int) ((t:Int)+(k':Int))=p2 at *;obtain ⟨z11,z12⟩:=z1;obtain ⟨z21,z22⟩:=z2;have yy:=AC ho;clear hf hx HO yH oG tq ho ha;by_cases hp:0<p1-p2
     ·go_wp2_with fail;refine (HF _).mono ?_;rintro e w1 ⟨rfl,b1⟩;obtain ⟨e0,e1⟩:=Eb b1;have b2:=LY.out.trans b1;have Ej:=AC (And.intro (HA.out.trans b2) (yy.out.later b2));clear b1 b2;go_wp2_with fail;refine (H1 _).mono ?_;rintro e wx ⟨rfl,rfl⟩;go_wp2_with fail;refine (H2 _).mono ?_;rintro e wx ⟨rfl,rfl⟩;obtain ⟨u,w2,k1,k2,k3⟩:=Nh (p1-p2,s) Ej.out.2 Ej.out.1.below.size tN;have K1:=AC k1;have HB:=AC (And.intro (k3 w (le_refl _) Ej.out.1) k2);clear k1 k2 k3;go_wp2_with (at_builtin;refine Lib.wpList_append_run _ rfl _ _ _ _ rfl _ _ rfl rfl _ _ K1.out ?_)
      go_roundg (n-(j+1))
      case measure=>omega
      case rel=>exact ⟨j+1,rfl,BN,by go_num,HB.out.1,⟨t+k',by go_num,qq.out,sc⟩,O++[(p1-p2,s)],HB.out.2,QN yU (by constructor <;> omega) (Ha HGS.out),by rw[length_append];simpa using vI,by
       rw[RA.out,UJ,Ns AD AD HGS.out];have:=HP.out
       rw[show (p1-p2).toNat=min (T-t) k'-(F-t) by omega]⟩
     ·have hpf:decide (0<p1-p2)=false:=decide_eq_false hp;go_wp2_with fail;refine (HF _).mono ?_;rintro e w1 ⟨rfl,b1⟩;obtain ⟨e0,e1⟩:=Eb b1;have b2:=LY.out.trans b1;have Ej:=AC (And.intro (HA.out.trans b2) (yy.out.later b2));clear b1 b2;go_wp2_with fail;refine (H1 _).mono ?_;rintro e wx ⟨rfl,rfl⟩;go_wp2_with fail;refine (H2 _).mono ?_;rintro e wx ⟨rfl,rfl⟩;go_wp2_with fail;go_roundg (n-(j+1))
      case measure=>omega
      case rel=>exact ⟨j+1,rfl,BN,by go_num,Ej.out.1,⟨t+k',by go_num,qq.out,sc⟩,O,Ej.out.2,yU.out,Nat.le_succ_of_le vI,by
       have:=HP.out
       rw[RA.out,show min (T-t) k'-(F-t)=0 by omega,List.replicate_zero,append_nil]⟩
    |false=>
     have HF:=AC (fun w=>GR f' s w false hf hx.1 hx.2);have HSJ:Hid (AM (l.take (j+1))=AM (l.take j)):=AC (by rw[HS.out,Tj hf,append_nil]);have yy:=AC ho;have yU:=AC oG;clear hf hx HO ho oG ha;go_wp2_with fail;refine (HF _).mono ?_;rintro e w1 ⟨rfl,b1⟩;have b2:=LY.out.trans b1;have Ej:=AC (And.intro (HA.out.trans b2) (yy.out.later b2));clear b1 b2;go_wp2_with fail;go_roundg (n-(j+1))
     case measure=>omega
     case rel=>exact ⟨j+1,rfl,BN,by go_num,Ej.out.1,⟨t,rfl,by rw[HSJ.out,HT.out],nt⟩,O,Ej.out.2,yU.out,Nat.le_succ_of_le vI,by rw[HSJ.out,yj.out]⟩
  ·obtain rfl:j=n:=AD
   have rW:Hid (Cn O=m):=AC (HTO O (by rw[yj.out,take_of_length_le (le_of_eq HL.out)]));have HX:=AC (HTI wr (.slice A9 O.length yT) O ho.reads oG tN);rw[rW.out]at HX;clear ho oG vI ha;go_wp2_with fail;refine HX.out.mono ?_;rintro e wz ⟨u,rfl,b9,o9⟩;have HZ:=AC (And.intro (HA.out.trans b9) (o9.wide HA.out.below.size));clear b9 o9;go_wp2_with fail;go_ret;exact ⟨_,rfl,HZ.out⟩
theorem Xz(A:Option Addr)(cap:Nat)(f q:Int)(w:World):Calls prog 128 #[.slice A 0 cap,.int .i64 f,.int .i64 q] w (JZ w []):=by
 have Dw:=AC (fun w=>SE A cap w);have Q6:=AC (fun w=>F0 f 0 0 w 0 (by have:=JX f 0;rw[show De f 0=0 from Nat.le_zero.1 (LC f 0)]at this;exact this));have Hw:=AC (fun w=>F0 q 0 0 w 0 (by have:=JX q 0;rw[show De q 0=0 from Nat.le_zero.1 (LC q 0)]at this;exact this));have HT:=AC (fun w=>I_ (.slice none 0 0) [] w (IL w 0).reads (fun r hr=>by cases hr) Ar);go_enter func128,ntmps128;go_wp2_with fail;refine (Dw _).mono ?_;rintro e w0 ⟨rfl,rfl⟩;go_wp2_with fail;refine (Q6 _).mono ?_;rintro e wx ⟨rfl,rfl⟩;go_wp2_with fail;refine (Hw _).mono ?_;rintro e wx ⟨rfl,rfl⟩;go_wp2_with fail;refine wp_loop_rounds 1 ?_;rw[rounds_succ];go_wp2_with fail;refine (HT _).mono ?_;rintro e w9 ⟨u,rfl,b9,o9⟩;have HZ:=AC (And.intro b9 o9);clear b9 o9;go_wp2_with fail;go_ret;exact ⟨_,rfl,HZ.out⟩
theorem NS(v:Value)(l m:Aa)(f q:Int)(w:World)(hm:Em l f q=m)(h:FH w v l)(hN:CV l)(hn:l.length<=90000):Calls prog 128 #[v,.int .i64 f,.int .i64 q] w (JZ w m):=by
 obtain ⟨A,cap,rfl,h2,h3⟩:=h;rcases eq_zero_or_pos l.length with hz|hz
 ·obtain rfl:=List.eq_nil_of_length_eq_zero hz
  obtain rfl:[]=m:=by rw[<-hm];unfold Em IG;rw[show sR []=[] from rfl,take_nil,List.drop_nil];rfl
  exact Xz A cap f q w
 ·obtain ⟨b,off,rfl,hb,Eu⟩:=h3 hz;exact YL b off _ cap _ _ _ l m f q w hm rfl rfl rfl rfl hn hN hb Eu
theorem nD(w:World)(n:Nat)(h0:0<n)(hn:n<=300000):
 ∃g cap w2,(Builtin.append_ #[35,3] 35 #[.slice none 0 0,.int .i64 (n:Int)]).run prog w=.ok (.slice (some ⟨g,0,none⟩) n cap) w2/\AA w w2/\Ge w2 w.heap.size (.slice (some ⟨g,0,none⟩) 0 cap) []:=by
 obtain ⟨i0,Gv,JM,Ie,JN⟩:=info_parts Ug;have JY:=grownCap_ge w n 0 76;have Ls:=grownCap_le_maxLen w n 0 76 (by unfold maxLen;omega);refine ⟨_,_,_,Lib.run_append_nil_zeros (P:=prog) w 35 3 35 76 i0 (.agg #[.int .i64 0,.int .i64 0]) .i64 .i64 underlying35 AY Gv JM n h0 (by rw[Ie];decide) AD (by rw[JN];omega),?_,rfl,.inr ⟨w.heap.size,_,_,rfl,le_refl _,Ae rfl,zero_le _,Ls,?_,rfl⟩⟩
 ·exact (((AA.refl w).drewN 1).alloc _)
 ·rw[Array.size_append,size_zeroCells,size_zeroCells];show n*2+(grownCap w n 0 76-n)*2=_
  omega
theorem XU(n:Int)(w:World)(h0:1<=n)(hn:n<=300000):Calls prog 219 #[.slice none 0 0,.int .i64 n] w (JZ w []):=by
 obtain ⟨N,rfl⟩:=Int.eq_ofNat_of_zero_le (show 0<=n by omega);obtain ⟨g,cap,w2,k1,k2,k3⟩:=nD w N AD AD;have K1:=AC k1;have HB:=AC (And.intro k2 k3);have QW:0<N:=AD;clear k1 k2 k3;go_enter func219,ntmps219;go_wp2_with (at_builtin;refine Lib.wpList_append_run _ rfl _ _ _ _ rfl _ _ rfl rfl _ _ K1.out ?_)
 go_ret;exact ⟨_,rfl,HB.out⟩
theorem kA(g:Nat)(v1 v2 v3:Value)(a b c:Aa)(w:World)(hg:g<w.heap.size)(c1:w.cell? ⟨g,0,none⟩=some v1)(c2:w.cell? ⟨g,1,none⟩=some v2)(c3:w.cell? ⟨g,2,none⟩=some v3)(h1:FH w v1 a)(h2:FH w v2 b)(h3:FH w v3 c)(hp:1<=b.length)(hs:a.length+b.length+c.length<=90000):
 Calls prog 176 #[.slice (some ⟨g,0,none⟩) 3 3] w (JZ w (a++b++c)):=by
 have H1:=AC h1;have H2:=AC h2;have H3:=AC h3;obtain ⟨A1,q1,rfl,_,_⟩:=h1;obtain ⟨A2,q2,rfl,_,_⟩:=h2;obtain ⟨A3,q3,rfl,_,_⟩:=h3;have Q6:=AC c1;have Hw:=AC c2;have ul:=AC c3;have HG:=AC (fun n w=>XU n w);have s1:a.length<=90000:=AD;have s2:b.length<=90000:=AD;have s3:c.length<=90000:=AD;go_enter func176,ntmps176;go_wp2_with fail;refine wp_loop_rounds 4 ?_;rw[rounds_succ];go_wp2_with fail;rw[rounds_succ];go_wp2_with fail;rw[rounds_succ];go_wp2_with fail;rw[rounds_succ];go_wp2_with fail;refine (HG _ _ AD AD).mono ?_;rintro e w1 ⟨x1,rfl,b1,o1⟩;have El:=AC (And.intro b1 o1);clear b1 o1 c1 c2 c3;obtain ⟨A9,q9,rfl,_,_⟩:=El.out.2.reads;go_wp2_with fail;refine wp_loop_rounds 4 ?_;rw[rounds_succ];have c1:w1.cell? ⟨g,0,none⟩=some (.slice A1 a.length q1):=(El.out.1.below.cell hg).trans Q6.out;obtain ⟨x2,w2,k1,k2,k3⟩:=M3 El.out.2 (H1.out.later El.out.1) El.out.1.below.size (by simp only[length_append,length_nil];omega);have K1:=AC k1;have FA:=AC (And.intro (Ge.grown El.out.2 (le_refl _) El.out.1 k3) k2);clear k1 k2 k3;go_wp2_with (at_builtin;refine Lib.wpList_append_run _ rfl _ _ _ _ rfl _ _ rfl rfl _ _ K1.out ?_)
 rw[rounds_succ];have c2:w2.cell? ⟨g,1,none⟩=some (.slice A2 b.length q2):=(FA.out.1.below.cell hg).trans Hw.out;obtain ⟨x3,w3,k1,k2,k3⟩:=M3 FA.out.2 (H2.out.later FA.out.1) FA.out.1.below.size (by simp only[length_append,length_nil];omega);have K2:=AC k1;have Fw:=AC (And.intro (Ge.grown FA.out.2 (le_refl _) FA.out.1 k3) k2);clear k1 k2 k3;go_wp2_with (at_builtin;refine Lib.wpList_append_run _ rfl _ _ _ _ rfl _ _ rfl rfl _ _ K2.out ?_)
 rw[rounds_succ];have c3:w3.cell? ⟨g,2,none⟩=some (.slice A3 c.length q3):=(Fw.out.1.below.cell hg).trans ul.out;obtain ⟨x4,w4,k1,k2,k3⟩:=M3 Fw.out.2 (H3.out.later Fw.out.1) Fw.out.1.below.size (by simp only[length_append,length_nil];omega);have K3:=AC k1;have Y7:=AC (And.intro (Ge.grown Fw.out.2 (le_refl _) Fw.out.1 k3) k2);clear k1 k2 k3;go_wp2_with (at_builtin;refine Lib.wpList_append_run _ rfl _ _ _ _ rfl _ _ rfl rfl _ _ K3.out ?_)
 rw[rounds_succ];go_wp2_with fail;go_ret;exact ⟨_,rfl,Y7.out⟩
theorem Tq(v1 v3:Value)(a c m:Aa)(n s:Int)(w:World)(hm:Cn (a++[(n,s)]++c)=m)(h1:FH w v1 a)(h3:FH w v3 c)(ha:CV a)(hc:CV c)(hn:BO n)(hs:BO s)(hl:a.length+c.length<=89000):
 Calls prog 127 #[v1,.agg #[.int .i64 n,.int .i64 s],v3] w (JZ w m):=by
 have Y11:Hid (∀(w':World) (g:Nat) (v2:Value),AA w w'->g<w'.heap.size->w'.cell? ⟨g,0,none⟩=some v1->w'.cell? ⟨g,1,none⟩=some v2->w'.cell? ⟨g,2,none⟩=some v3->FH w' v2 [(n,s)]->Calls prog 176 #[.slice (some ⟨g,0,none⟩) 3 3] w' (JZ w' (a++[(n,s)]++c))):=
  AC (fun w' g v2 hw hg c1 c2 c3 h2=>kA g v1 v2 v3 a [(n,s)] c w' hg c1 c2 c3 (h1.later hw) h2 (h3.later hw) (le_refl 1) (by simp only[length_cons,length_nil];omega))
 have hN:CV (a++[(n,s)]++c):=fun r hr=>by
  rcases List.mem_append.1 hr with hr|hr
  ·exact QN ha hn hs r hr
  ·exact hc r hr
 have HT:=AC (fun (w':World) u (h:FH w' u (a++[(n,s)]++c))=>I_ u _ w' h hN (by simp only[length_append,length_cons,length_nil];omega));have HM:=AC hm;obtain ⟨A1,q1,rfl,_,_⟩:=h1;obtain ⟨A3,q3,rfl,_,_⟩:=h3;clear ha hc hn hs hl hN hm;go_enter func127,ntmps127;go_wp2_with fail;have hw:AA w (((w.alloc (.cells #[.int .i64 n,.int .i64 s] 76)).alloc (.cells #[.int .i64 n,.int .i64 s] 76)).alloc (.cells #[.slice A1 a.length q1,.slice (some ⟨w.heap.size+1,0,none⟩) 1 1,.slice A3 c.length q3] 35)):=(((AA.refl w).alloc _).alloc _).alloc _;have hz:(((w.alloc (.cells #[.int .i64 n,.int .i64 s] 76)).alloc (.cells #[.int .i64 n,.int .i64 s] 76)).alloc (.cells #[.slice A1 a.length q1,.slice (some ⟨w.heap.size+1,0,none⟩) 1 1,.slice A3 c.length q3] 35)).heap[w.heap.size+1+1]?=some (.cells #[.slice A1 a.length q1,.slice (some ⟨w.heap.size+1,0,none⟩) 1 1,.slice A3 c.length q3] 35):=Ae Ar;have hy:FH (((w.alloc (.cells #[.int .i64 n,.int .i64 s] 76)).alloc (.cells #[.int .i64 n,.int .i64 s] 76)).alloc (.cells #[.slice A1 a.length q1,.slice (some ⟨w.heap.size+1,0,none⟩) 1 1,.slice A3 c.length q3] 35)) (.slice (some ⟨w.heap.size+1,0,none⟩) 1 1) [(n,s)]:=
  (Ge.one (B:=0) (r:=(n,s)) (zero_le _) (Ae (w:=w.alloc (.cells #[.int .i64 n,.int .i64 s] 76)) Ar)).reads.later ((AA.refl _).alloc _)
 refine (Y11 _ _ _ hw (As hz) ((AE hz 0).trans rfl) ((AE hz 1).trans rfl) ((AE hz 2).trans rfl) hy).mono ?_;rintro e w1 ⟨u,rfl,b1,o1⟩;have El:=AC (And.intro (hw.trans b1) o1.reads);clear hw hz hy b1 o1;go_wp2_with fail;refine (HT _ _ El.out.2).mono ?_;rintro e w2 ⟨u2,rfl,b2,o2⟩;have FA:=AC (And.intro (El.out.1.trans b2) (o2.wide El.out.1.below.size));clear b2 o2;go_wp2_with fail;go_ret;exact ⟨_,rfl,FA.out.1,by rw[<-HM.out];exact FA.out.2⟩
theorem N7(s:List Int):∀k,(BM (s.drop k)).length<=(BM s).length
 |0=>le_refl _
 |k+1=>by
  refine le_trans ?_ (N7 s k)
  cases h:s.drop k with
  |nil=>rw[List.drop_eq_nil_of_le (by have:=List.drop_eq_nil_iff.1 h;omega)];exact le_refl _
  |cons x r=>
   rw[show s.drop (k+1)=r by rw[<-List.drop_drop,h];rfl];show (BM r).length<=(Bj x (BM r)).length
   cases BM r with
   |nil=>exact zero_le _
   |cons y q=>obtain ⟨n,t⟩:=y;rw[BV];split <;> simp
theorem NH:∀(s:List Int) (k:Nat),(BM (s.take k)).length<=(BM s).length
 |[],k=>by rw[take_nil];exact le_refl _
 |x::s,0=>zero_le _
 |x::[],k+1=>by rw[List.take_succ_cons,take_nil];exact le_refl _
 |x::y::s,1=>(Mn x (BM (y::s))).2
 |x::y::s,k+2=>by
  have ih:=NH (y::s) (k+1);show (Bj x (BM (y::s.take k))).length<=(Bj x (BM (y::s))).length
  rw[List.take_succ_cons]at ih;obtain ⟨n1,r1,e1,_⟩:=Kn y (s.take k);obtain ⟨n2,r2,e2,_⟩:=Kn y s;rw[e1,e2]at ih;rw[e1,e2,BV,BV];simp only[length_cons]at ih;split <;> simp only[length_cons] <;> omega
theorem VP(l:Aa)(f q:Int):(Em l f q).length<=l.length:=by
 unfold Em IG;refine le_trans (N7 _ _) (le_trans (NH _ _) ?_);exact lq l
theorem R3(l:Aa)(f q:Int):∀x∈IG (sR l) f q,BL x=true:=fun x hx=>LK x (List.mem_of_mem_take (List.mem_of_mem_drop hx))
theorem We(l:Aa)(f q:Int):(IG (sR l) f q).length<=16777216:=by
 have:=Jn l
 unfold IG;rw[length_drop,length_take];omega
theorem Zi{s:List Int}{f:Int}(h0:0<=f)(h1:f<=s.length):IG s 0 f=s.take f.toNat:=by
 unfold IG;rw[show De f s.length=f.toNat by unfold De;omega,show De 0 s.length=0 by unfold De;omega,List.drop_zero]
theorem U9{s:List Int}{t:Int}(h0:0<=t)(h1:t<=s.length):IG s t s.length=s.drop t.toNat:=by
 unfold IG;rw[show De (s.length:Int) s.length=s.length by unfold De;omega,show De t s.length=t.toNat by unfold De;omega,take_of_length_le (le_refl _)]
theorem f8(h1:0<=n)(h2:n<=16777216)(h3:BL s=true):DY (n,s)=replicate n.toNat s:=by
 by_cases h:1<=n
 ·exact Ns h h2 h3
 ·obtain rfl:n=0:=AD
  unfold DY CY;rw[if_neg Ar];rfl
theorem Xm{A B:List Int}(hA:∀x∈A,BL x=true)(hB:∀x∈B,BL x=true)(h1:0<=n)(h3:BL s=true)(hl:A.length+n.toNat+B.length<=16777216):
 Cn (BM A++[(n,s)]++BM B)=BM (A++replicate n.toNat s++B):=by
 have e:AM (BM A++[(n,s)]++BM B)=A++replicate n.toNat s++B:=by
  rw[Bw,Bw,Cr,GK,append_nil,G0 hA AD,G0 hB AD,f8 h1 AD h3]
 unfold Cn;rw[GY (by rw[e,length_append,length_append,List.length_replicate];omega),e]
theorem Gs(w:World):Mc w (.slice none 0 0) []:=(IL w 0).typed
theorem MM(l:Aa)(a b n s:Int)(ha:0<=a)(uW:a<=(sR l).length)(hb:0<=b)(Hr:b<=(sR l).length)(hn:0<=n)(hs:BL s=true)(hl:a+n+(((sR l).length:Int)-b)<=16777216):
 Cn (Em l 0 a++[(n,s)]++Em l b (sR l).length)=BM ((sR l).take a.toNat++replicate n.toNat s++(sR l).drop b.toNat):=by
 unfold Em;rw[Zi ha uW,U9 hb Hr];refine Xm (fun x hx=>LK x (List.mem_of_mem_take hx)) (fun x hx=>LK x (List.mem_of_mem_drop hx)) hn hs ?_;rw[length_take,length_drop];omega
def wn(w:World)(v:Value)(l:Aa):Prop:=
 (∀(w':World) (f q:Int),AA w w'->Calls prog 128 #[v,.int .i64 f,.int .i64 q] w' (JZ w' (Em l f q)))/\
 (∀(w':World) (v1 v3:Value) (a b n s:Int),FH w' v1 (Em l 0 a)->FH w' v3 (Em l b (sR l).length)->BO n->BO s->Calls prog 127 #[v1,.agg #[.int .i64 n,.int .i64 s],v3] w' (JZ w' (Cn (Em l 0 a++[(n,s)]++Em l b (sR l).length))))
theorem Qn{v:Value}(h:Cf w v l):wn w v l:=
 ⟨fun w' f q ha=>NS v l _ f q w' rfl (h.1.1.later ha) h.2.1 (by have:=h.2.2;omega),
  fun w' v1 v3 a b n s h1 h3 hn hs=>Tq v1 v3 _ _ _ n s w' rfl h1 h3 (UO (R3 l _ _) (We l _ _)) (UO (R3 l _ _) (We l _ _)) hn hs (by
   have e1:=VP l 0 a;have e2:=VP l b (sR l).length;have:=h.2.2
   omega)⟩
theorem iJ(v:Value)(l:Aa)(f t s:Int)(N:Nat)(w:World)(hN:(sR l).length=N)(hx:f<0\/t<f\/(N:Int)<t)(h:Cf w v l):Calls prog 84 #[v,.int .i64 f,.int .i64 t,.int .i64 s] w (Fl w [] 1):=by
 have Dw:=AC (EE v l w N hN h.1.1 h.2.1 (by have:=h.2.2;omega));clear h hN;by_cases h1:f<0
 ·clear hx;go_enter func84,ntmps84;go_wp2_with (go_at_call 65;refine Dw.out.mono ?_;rintro e w0 ⟨rfl,b0⟩;have Jl:=AC b0;clear b0)
  refine bodyPost_ret (v:=.tuple #[.slice none 0 0,.int .i64 1]) (by simp[results,results84,go_sem]) rfl ?_;exact ⟨_,rfl,Jl.out,Gs _⟩
 ·have d1:decide (f<0)=false:=decide_eq_false h1;by_cases h2:t<f
  ·clear hx;go_enter func84,ntmps84;go_wp2_with (go_at_call 65;refine Dw.out.mono ?_;rintro e w0 ⟨rfl,b0⟩;have Jl:=AC b0;clear b0)
   refine bodyPost_ret (v:=.tuple #[.slice none 0 0,.int .i64 1]) (by simp[results,results84,go_sem]) rfl ?_;exact ⟨_,rfl,Jl.out,Gs _⟩
  ·have d2:decide (t<f)=false:=decide_eq_false h2;have h3:(N:Int)<t:=AD;clear hx;go_enter func84,ntmps84;go_wp2_with (go_at_call 65;refine Dw.out.mono ?_;rintro e w0 ⟨rfl,b0⟩;have Jl:=AC b0;clear b0)
   refine bodyPost_ret (v:=.tuple #[.slice none 0 0,.int .i64 1]) (by simp[results,results84,go_sem]) rfl ?_;exact ⟨_,rfl,Jl.out,Gs _⟩
theorem bZ(v:Value)(l:Aa)(f t s:Int)(N:Nat)(w:World)(hN:(sR l).length=N)(h1:0<=f)(h2:f<=t)(h3:t<=N)(hs:BL s=false)(h:Cf w v l):Calls prog 84 #[v,.int .i64 f,.int .i64 t,.int .i64 s] w (Fl w [] 5):=by
 have Dw:=AC (EE v l w N hN h.1.1 h.2.1 (by have:=h.2.2;omega));have HG:=AC (fun w=>JB s w false hs);have d1:decide (f<0)=false:=decide_eq_false AD;have d2:decide (t<f)=false:=decide_eq_false AD;have d3:decide ((N:Int)<t)=false:=decide_eq_false AD;clear h hN hs;go_enter func84,ntmps84;go_wp2_with (go_at_call 65;refine Dw.out.mono ?_;rintro e w0 ⟨rfl,b0⟩;have Jl:=AC b0;clear b0)
 refine (HG _).mono ?_;rintro e wx ⟨rfl,rfl⟩;go_wp2_with fail;refine bodyPost_ret (v:=.tuple #[.slice none 0 0,.int .i64 5]) (by simp[results,results84,go_sem]) rfl ?_;exact ⟨_,rfl,Jl.out,Gs _⟩
theorem b_(v:Value)(l m:Aa)(f t s:Int)(N:Nat)(w:World)(hN:(sR l).length=N)(h1:0<=f)(h2:f<=t)(h3:t<=N)(hs:BL s=true)(hi:BO t)(hm:BM (GQ (sR l) f t s)=m)(h:Cf w v l):Calls prog 84 #[v,.int .i64 f,.int .i64 t,.int .i64 s] w (Fl w m 0):=by
 have Dw:=AC (EE v l w N hN h.1.1 h.2.1 (by have:=h.2.2;omega));have HG:=AC (fun w=>JB s w true hs);have HT:=AC (Qn h);have tq:N<=16777216:=by rw[<-hN];exact Jn l
 have HM:Hid (Cn (Em l 0 f++[(t-f,s)]++Em l t (sR l).length)=m):=AC (by
  rw[MM l f t (t-f) s h1 AD AD AD AD hs AD,<-hm]
  rfl)
 have J3:=AC hN;have uN:=AC (Ha hs);have d1:decide (f<0)=false:=decide_eq_false AD;have d2:decide (t<f)=false:=decide_eq_false AD;have d3:decide ((N:Int)<t)=false:=decide_eq_false AD;clear h hN hs hm hi;go_enter func84,ntmps84;go_wp2_with (go_at_call 65;refine Dw.out.mono ?_;rintro e w0 ⟨rfl,b0⟩;have Jl:=AC b0;clear b0)
 refine (HG _).mono ?_;rintro e wx ⟨rfl,rfl⟩;go_wp2_with fail;refine (HT.out.1 _ 0 f Jl.out).mono ?_;rintro e w1 ⟨u1,rfl,b1,o1⟩;have El:=AC (And.intro (Jl.out.trans b1) o1.reads);clear b1 o1;go_wp2_with fail;refine (HT.out.1 _ t N El.out.1).mono ?_;rintro e w2 ⟨u2,rfl,b2,o2⟩;have FA:=AC (And.intro (El.out.1.trans b2) (And.intro (El.out.2.later b2) o2.reads));clear b2 o2;go_wp2_with fail;refine (HT.out.2 _ u1 u2 f t _ _ FA.out.2.1 (by rw[J3.out];exact FA.out.2.2) (by constructor <;> omega) uN.out).mono ?_;rintro e w3 ⟨u3,rfl,b3,o3⟩;have Fw:=AC (And.intro (FA.out.1.trans b3) o3.typed);clear b3 o3;go_wp2_with fail;refine bodyPost_ret (v:=.tuple #[u3,.int .i64 0]) (by simp[results,results84,go_sem]) rfl ?_;exact ⟨_,rfl,Fw.out.1,by rw[<-HM.out];exact Fw.out.2⟩
theorem ls(v:Value)(l m:Aa)(f t s c:Int)(w:World)(hm:Y_ l f t s=(m,c))(h:Cf w v l)(hi:BO t):Calls prog 84 #[v,.int .i64 f,.int .i64 t,.int .i64 s] w (Fl w m c):=by
 unfold Y_ at hm;split at hm
 ·rename_i hx
  cases hm;exact iJ v l f t s _ w rfl hx h
 ·rename_i hx
  split at hm
  ·rename_i hs
   cases hm;exact b_ v l _ f t s _ w rfl AD AD AD hs hi rfl h
  ·rename_i hs
   cases hm;exact bZ v l f t s _ w rfl AD AD AD (by simpa using hs) h
theorem kz(v:Value)(l:Aa)(a n:Int)(N:Nat)(w:World)(hN:(sR l).length=N)(hx:a<0\/(N:Int)<a\/n<0)(h:Cf w v l):Calls prog 123 #[v,.int .i64 a,.int .i64 n] w (Fl w [] 1):=by
 have Dw:=AC (EE v l w N hN h.1.1 h.2.1 (by have:=h.2.2;omega));clear h hN;by_cases h1:a<0
 ·clear hx;go_enter func123,ntmps123;go_wp2_with (go_at_call 65;refine Dw.out.mono ?_;rintro e w0 ⟨rfl,b0⟩;have Jl:=AC b0;clear b0)
  refine bodyPost_ret (v:=.tuple #[.slice none 0 0,.int .i64 1]) (by simp[results,results123,go_sem]) rfl ?_;exact ⟨_,rfl,Jl.out,Gs _⟩
 ·have d1:decide (a<0)=false:=decide_eq_false h1;by_cases h2:(N:Int)<a
  ·clear hx;go_enter func123,ntmps123;go_wp2_with (go_at_call 65;refine Dw.out.mono ?_;rintro e w0 ⟨rfl,b0⟩;have Jl:=AC b0;clear b0)
   refine bodyPost_ret (v:=.tuple #[.slice none 0 0,.int .i64 1]) (by simp[results,results123,go_sem]) rfl ?_;exact ⟨_,rfl,Jl.out,Gs _⟩
  ·have d2:decide ((N:Int)<a)=false:=decide_eq_false h2;have h3:n<0:=AD;clear hx;go_enter func123,ntmps123;go_wp2_with (go_at_call 65;refine Dw.out.mono ?_;rintro e w0 ⟨rfl,b0⟩;have Jl:=AC b0;clear b0)
   refine bodyPost_ret (v:=.tuple #[.slice none 0 0,.int .i64 1]) (by simp[results,results123,go_sem]) rfl ?_;exact ⟨_,rfl,Jl.out,Gs _⟩
theorem eU(v:Value)(l:Aa)(a n:Int)(N:Nat)(w:World)(hN:(sR l).length=N)(h1:0<=a)(h2:a<=N)(h3:0<=n)(h4:16777216-(N:Int)<n)(h:Cf w v l):Calls prog 123 #[v,.int .i64 a,.int .i64 n] w (Fl w [] 2):=by
 have Dw:=AC (EE v l w N hN h.1.1 h.2.1 (by have:=h.2.2;omega));have tq:N<=16777216:=by rw[<-hN];exact Jn l
 have d1:decide (a<0)=false:=decide_eq_false AD;have d2:decide ((N:Int)<a)=false:=decide_eq_false AD;have d3:decide (n<0)=false:=decide_eq_false AD;clear h hN;go_enter func123,ntmps123;go_wp2_with (go_at_call 65;refine Dw.out.mono ?_;rintro e w0 ⟨rfl,b0⟩;have Jl:=AC b0;clear b0)
 refine bodyPost_ret (v:=.tuple #[.slice none 0 0,.int .i64 2]) (by simp[results,results123,go_sem]) rfl ?_;exact ⟨_,rfl,Jl.out,Gs _⟩
theorem PY(l:Aa)(a:Int):BL (DF (sR l) a)=true:=by
 unfold DF;rw[List.getD_eq_getElem?_getD]
 cases h:(sR l)[(a-1).toNat]? with
 |none=>rfl
 |some x=>exact LK x (List.mem_of_getElem? h)
theorem cQ(v:Value)(l m:Aa)(a n:Int)(N:Nat)(w:World)(hN:(sR l).length=N)(h1:0<=a)(h2:a<=N)(h3:0<=n)(h4:n<=16777216-(N:Int))(hm:BM (I5 (sR l) a n)=m)(h:Cf w v l):Calls prog 123 #[v,.int .i64 a,.int .i64 n] w (Fl w m 0):=by
 have Dw:=AC (EE v l w N hN h.1.1 h.2.1 (by have:=h.2.2;omega));have HT:=AC (Qn h);have tq:N<=16777216:=by rw[<-hN];exact Jn l
 have HM:Hid (Cn (Em l 0 a++[(n,DF (sR l) a)]++Em l a (sR l).length)=m):=AC (by
  rw[MM l a a n _ h1 AD h1 AD h3 (PY l a) AD,<-hm]
  rfl)
 have J3:=AC hN;have uN:=AC (Ha (PY l a));have zq:Hid (∀(w':World) (i:Int),AA w w'->i=max (a-1) 0->Calls prog 171 #[v,.int .i64 i] w' fun e w2=>e=.returned (.int .i64 (DF (sR l) a))/\AA w' w2):=AC (fun w' i ha hi=>Qb v l i _ w' (by
  subst hi;unfold uB DF;rw[if_pos AD,show (max (a-1) 0).toNat=(a-1).toNat by omega]) (h.1.1.later ha) h.2.1 (by have:=h.2.2;omega))
 have d1:decide (a<0)=false:=decide_eq_false AD;have d2:decide ((N:Int)<a)=false:=decide_eq_false AD;have d3:decide (n<0)=false:=decide_eq_false AD;have d4:decide (16777216-(N:Int)<n)=false:=decide_eq_false AD;have h5:a<=16777216:=AD;have h6:n<=16777216:=AD;generalize DF (sR l) a=s at *;clear h hN hm;go_enter func123,ntmps123;go_wp2_with (go_at_call 65;refine Dw.out.mono ?_;rintro e w0 ⟨rfl,b0⟩;have Jl:=AC b0;clear b0)
 all_goals
  refine (zq _ _ Jl AD).mono ?_;rintro e wx ⟨rfl,bx⟩;have py:=AC (Jl.out.trans bx);clear bx;go_wp2_with fail;refine (HT.out.1 _ 0 a py.out).mono ?_;rintro e w1 ⟨u1,rfl,b1,o1⟩;have El:=AC (And.intro (py.out.trans b1) o1.reads);clear b1 o1;go_wp2_with fail;refine (HT.out.1 _ a N El.out.1).mono ?_;rintro e w2 ⟨u2,rfl,b2,o2⟩;have FA:=AC (And.intro (El.out.1.trans b2) (And.intro (El.out.2.later b2) o2.reads));clear b2 o2;go_wp2_with fail;refine (HT.out.2 _ u1 u2 a a _ _ FA.out.2.1 (by rw[J3.out];exact FA.out.2.2) (by constructor <;> omega) uN.out).mono ?_;rintro e w3 ⟨u3,rfl,b3,o3⟩;have Fw:=AC (And.intro (FA.out.1.trans b3) o3.typed);clear b3 o3;go_wp2_with fail;refine bodyPost_ret (v:=.tuple #[u3,.int .i64 0]) (by simp[results,results123,go_sem]) rfl ?_;exact ⟨_,rfl,Fw.out.1,by rw[<-HM.out];exact Fw.out.2⟩
theorem gC(v:Value)(l m:Aa)(a n c:Int)(w:World)(hm:lH l a n=(m,c))(h:Cf w v l):Calls prog 123 #[v,.int .i64 a,.int .i64 n] w (Fl w m c):=by
 unfold lH at hm;split at hm
 ·rename_i hx
  cases hm;exact kz v l a n _ w rfl hx h
 ·rename_i hx
  split at hm
  ·rename_i hs
   cases hm;exact eU v l a n _ w rfl AD AD AD AD h
  ·rename_i hs
   cases hm;exact cQ v l _ a n _ w rfl AD AD AD AD rfl h
theorem gI(v:Value)(l:Aa)(a n:Int)(N:Nat)(w:World)(hN:(sR l).length=N)(hx:¬PG a n N)(h:Cf w v l):Calls prog 122 #[v,.int .i64 a,.int .i64 n] w (Fl w [] 1):=by
 have Dw:=AC (EE v l w N hN h.1.1 h.2.1 (by have:=h.2.2;omega));have HS:=AC (fun w=>kH a n N w hx (by have:=Jn l;omega) AD);clear h hN hx;go_enter func122,ntmps122;go_wp2_with (go_at_call 65;refine Dw.out.mono ?_;rintro e w0 ⟨rfl,b0⟩;have Jl:=AC b0;clear b0)
 refine (HS _).mono ?_;rintro e wx ⟨rfl,rfl⟩;go_wp2_with fail;refine bodyPost_ret (v:=.tuple #[.slice none 0 0,.int .i64 1]) (by simp[results,results122,go_sem]) rfl ?_;exact ⟨_,rfl,Jl.out,Gs _⟩
theorem dJ(v:Value)(l m:Aa)(a n:Int)(N:Nat)(w:World)(hN:(sR l).length=N)(hx:PG a n N)(hm:BM (IZ (sR l) a n)=m)(h:Cf w v l):Calls prog 122 #[v,.int .i64 a,.int .i64 n] w (Fl w m 0):=by
 have Dw:=AC (EE v l w N hN h.1.1 h.2.1 (by have:=h.2.2;omega));have tq:N<=16777216:=by rw[<-hN];exact Jn l
 have HS:=AC (fun w=>cI a n N w hx AD);have HT:=AC (Qn h);obtain ⟨h1,h2,h3,h4⟩:=hx;have HM:Hid (Cn (Em l 0 a++[(0,0)]++Em l (a+n) (sR l).length)=m):=AC (by
  rw[MM l a (a+n) 0 0 h1 AD AD AD AD rfl AD,<-hm];unfold IZ;rw[show (0:Int).toNat=0 from rfl,List.replicate_zero,append_nil])
 have J3:=AC hN;clear h hN hm;go_enter func122,ntmps122;go_wp2_with (go_at_call 65;refine Dw.out.mono ?_;rintro e w0 ⟨rfl,b0⟩;have Jl:=AC b0;clear b0)
 refine (HS _).mono ?_;rintro e wx ⟨rfl,rfl⟩;go_wp2_with fail;refine (HT.out.1 _ 0 a Jl.out).mono ?_;rintro e w1 ⟨u1,rfl,b1,o1⟩;have El:=AC (And.intro (Jl.out.trans b1) o1.reads);clear b1 o1;go_wp2_with fail;refine (HT.out.1 _ (a+n) N El.out.1).mono ?_;rintro e w2 ⟨u2,rfl,b2,o2⟩;have FA:=AC (And.intro (El.out.1.trans b2) (And.intro (El.out.2.later b2) o2.reads));clear b2 o2;go_wp2_with fail;refine (HT.out.2 _ u1 u2 a (a+n) 0 0 FA.out.2.1 (by rw[J3.out];exact FA.out.2.2) (by constructor <;> omega) (by constructor <;> omega)).mono ?_;rintro e w3 ⟨u3,rfl,b3,o3⟩;have Fw:=AC (And.intro (FA.out.1.trans b3) o3.typed);clear b3 o3;go_wp2_with fail;refine bodyPost_ret (v:=.tuple #[u3,.int .i64 0]) (by simp[results,results122,go_sem]) rfl ?_;exact ⟨_,rfl,Fw.out.1,by rw[<-HM.out];exact Fw.out.2⟩
theorem ip(v:Value)(l m:Aa)(a n c:Int)(w:World)(hm:gT l a n=(m,c))(h:Cf w v l):Calls prog 122 #[v,.int .i64 a,.int .i64 n] w (Fl w m c):=by
 unfold gT at hm;split at hm
 ·rename_i hx
  cases hm;exact gI v l a n _ w rfl (fun hs=>by unfold PG at hs;omega) h
 ·rename_i hx
  cases hm;exact dJ v l _ a n _ w rfl (by unfold PG;omega) rfl h
theorem Wt{p:Program}{f:FuncId}{args:Array Value}(h:Calls p f args w (JZ w m)):Calls p f args w (Xf w m):=
 h.mono fun _ _ ⟨u,h1,h2,h3⟩=>⟨u,h1,h2,h3.typed⟩
theorem Lu:xS where
 MS l c hc h:=Xd _ l c _ hc h.1.1 h.2.1 (by have:=h.2.2;omega)
 tidy l m hm h:=by
  subst hm;exact Wt (I_ _ l _ h.1.1 h.2.1 (by have:=h.2.2;omega))
 len l n hn h:=EE _ l _ n hn h.1.1 h.2.1 (by have:=h.2.2;omega)
 R5 l i c hc h _:=Qb _ l i c _ hc h.1.1 h.2.1 (by have:=h.2.2;omega)
 set l m f t s c hm h _ ht _:=ls _ l m f t s c _ hm h ht
 ins l m a n c hm h _ _:=gC _ l m a n c _ hm h
 del l m a n c hm h _ _:=ip _ l m a n c _ hm h
 part l m f t hm h _ _:=Wt (NS _ l m f t _ hm h.1.1 h.2.1 (by have:=h.2.2;omega))
end
end Go.Proofs.YtamhnffokoejjaaGreatDoor
