import Derived.Test.YtamhnffokoejjaaGreatDoorKwbb
import Derived.Test.YtamhnffokoejjaaGreatDoorKway
set_option linter.all false
set_option maxHeartbeats 1600000
set_option maxRecDepth 100000
namespace Go.Proofs.YtamhnffokoejjaaGreatDoor
open List(range length_drop length_take getD_eq_getElem?_getD length_set getElem_mem getElem?_eq_none)
open Nat(zero_le le_refl)
open Go.Proofs.Tryz
open Go.RowKit
section
variable{rl:Aa}{la:Bool}{x:Int}{l:List Int}{n:Nat}
def Et(l:List Int)(sty:Nat->Int)(c:Nat):Bc:=(range c).map fun j=>((it l j:Int),((JH (l.drop (it l j))).2:Int),(JH (l.drop (it l j))).1,sty (it l j))
theorem EX(l:List Int)(sty:Nat->Int)(c:Nat):(Et l sty c).length=c:=by simp[Et]
theorem Yo(l:List Int)(sty:Nat->Int)(c:Nat):Et l sty (c+1)=Et l sty c++[((it l c:Int),((JH (l.drop (it l c))).2:Int),(JH (l.drop (it l c))).1,sty (it l c))]:=by
 unfold Et;rw[List.range_succ,List.map_append];rfl
theorem Uh{sty sty2:Nat->Int}{c:Nat}(hc:Vr l c)(h:∀p,p<l.length->sty p=sty2 p):Et l sty c=Et l sty2 c:=by
 unfold Et;apply List.map_congr_left
 intro j hj;rw[h _ (hc.lt j (List.mem_range.1 hj))]
theorem WN(hb:BX l){sty:Nat->Int}(hs:∀p,BO (sty p))(hl:l.length<=1000)(c:Nat):Gc (Et l sty c):=by
 intro x hx;obtain ⟨j,_,rfl⟩:=List.mem_map.1 hx;have h1:=N4 hb j;have h2:=Kz (hb.drop (it l j));have h3:=WV (hb.drop (it l j));refine ⟨?_,?_,?_,hs _⟩
 ·constructor <;> simp only <;> omega
 ·constructor <;> simp only <;> omega
 ·constructor <;> simp only <;> omega
def Gt(rl:Aa)(f:Int)(n:Nat):List Int:=if 0<=f/\f<=16777216 then IG (sR rl) f (f+n) else []
theorem VA(rl:Aa)(f:Int)(n:Nat):(Gt rl f n).length<=n:=by
 unfold Gt;split
 ·unfold IG De;rw[length_drop,length_take];omega
 ·exact zero_le _
theorem Sg{f:Int}:∀s∈Gt rl f n,BL s=true:=by
 intro s hs;unfold Gt at hs;split at hs
 ·exact LK s (List.mem_of_mem_take (List.mem_of_mem_drop hs))
 ·cases hs
theorem oM(hg:∀s∈l,BL s=true)(hl:l.length<=1000):Mu (BM l):=fun r hr=>by
 have h:=Hv hg r hr;exact ⟨h.1,AD,Ha h.2.2⟩
theorem dx(l:List Int)(p:Nat):(l.drop p).getD 0 0=l.getD p 0:=by
 rw[getD_eq_getElem?_getD,getD_eq_getElem?_getD,List.getElem?_drop,Nat.add_zero]
theorem Wn(v:Value)(rl:Aa)(f:Int)(n:Nat)(w:World)(h:FH w v rl)(hN:CV rl)(hl:rl.length<=90000)(hf:BO f)(hn:n<=1000):
 Calls prog 195 #[v,.int .i64 f,.int .i64 (n:Int)] w fun e w'=>∃u,e=.returned u/\AA w w'/\Ll w.heap.size w' u (BM (Gt rl f n)):=by
 obtain ⟨f1,f2⟩:=hf;by_cases h1:f<0
 ·have HE:Hid (BM (Gt rl f n)=[]):=AC (by unfold Gt;rw[if_neg AD];rfl);clear h hN;go_enter func195,ntmps195;go_wp2_with fail;go_ret;exact ⟨_,rfl,AA.refl _,by rw[HE.out];exact Ll.nil _ _⟩
 ·by_cases h2:16777216<f
  ·have HE:Hid (BM (Gt rl f n)=[]):=AC (by unfold Gt;rw[if_neg AD];rfl);have d1:decide (f<0)=false:=decide_eq_false h1;clear h hN;go_enter func195,ntmps195;go_wp2_with fail;go_ret;exact ⟨_,rfl,AA.refl _,by rw[HE.out];exact Ll.nil _ _⟩
  ·have HP:=AC (NS v rl (BM (Gt rl f n)) f (f+n) w (by unfold Gt;rw[if_pos AD];rfl) h hN hl);have d1:decide (f<0)=false:=decide_eq_false h1;have d2:decide (16777216<f)=false:=decide_eq_false h2;have f3:0<=f:=AD;have f4:f<=16777216:=AD;clear h hN h1 h2;go_enter func195,ntmps195;go_wp2_with fail;refine HP.out.mono ?_;rintro e w1 ⟨u,rfl,b1,o1⟩;have HO:=AC (And.intro b1 (Ll.Zm o1));clear b1 o1;go_wp2_with fail;go_ret;exact ⟨_,rfl,HO.out⟩
theorem gu(w:World)(n:Nat)(h0:0<n)(hn:n<=300000):
 ∃g cap w2,(Builtin.append_ #[108,3] 108 #[.slice none 0 0,.int .i64 (n:Int)]).run prog w=.ok (.slice (some ⟨g,0,none⟩) n cap) w2/\AA w w2/\OF Gf 160 w2 w.heap.size (.slice (some ⟨g,0,none⟩) 0 cap) []:=by
 obtain ⟨i0,Gv,JM,Ie,JN⟩:=info_parts aS.info;have JY:=grownCap_ge w n 0 160;have Ls:=grownCap_le_maxLen w n 0 160 (by unfold maxLen;omega);refine ⟨_,_,_,Lib.run_append_nil_zeros (P:=prog) w 108 3 108 160 i0 (.agg #[.int .i64 0,.int .i64 0,.int .i32 0,.int .i64 0]) .i64 .i64 underlying108 AY Gv JM n h0 (by rw[Ie];decide) AD (by rw[JN];omega),?_,rfl,.inr ⟨w.heap.size,_,_,rfl,le_refl _,Ae rfl,zero_le _,Ls,?_,by simp[Ic.row]⟩⟩
 ·exact (((AA.refl w).drewN 1).alloc _)
 ·rw[Array.size_append,size_zeroCells,size_zeroCells];show n*4+(grownCap w n 0 160-n)*4=_*4
  omega
theorem X6(N:Nat)(w:World)(hn:N<=1000):Calls prog 196 #[.slice none 0 0,.int .i64 (N:Int)] w fun e w'=>∃u,e=.returned u/\AA w w'/\OF Gf 160 w' w.heap.size u []:=by
 rcases Nat.eq_zero_or_pos N with rfl|QW
 ·go_enter func196,ntmps196;go_wp2_with fail;go_ret;exact ⟨_,rfl,AA.refl _,OF.nil _ _ _⟩
 ·obtain ⟨g,cap,w2,k1,k2,k3⟩:=gu w N QW AD;have K1:=AC k1;have HB:=AC (And.intro k2 k3);clear k1 k2 k3;go_enter func196,ntmps196;go_wp2_with (at_builtin;refine Lib.wpList_append_run _ rfl _ _ _ _ rfl _ _ rfl rfl _ _ K1.out ?_)
  go_ret;exact ⟨_,rfl,HB.out⟩
theorem m8(v vr:Value)(l:List Int)(rl:Aa)(f:Int)(c:Nat)(w:World)(hv:Lr w v l)(hb:BX l)(hl:l.length<=900)(hg:Dh w)(hc:Vr l c)(hr:FH w vr rl)(hN:CV rl)(tC:rl.length<=90000)(hf:BO f):
 Calls prog 159 #[v,vr,.int .i64 f] w fun e w'=>∃u,e=.returned u/\AA w w'/\OF Gf 160 w' w.heap.size u (Et l (fun p=>(Gt rl f l.length).getD p 0) c):=by
 have HV:=AC hv;obtain ⟨A,cap,rfl,JY⟩:=hv.form;have hD1:=VA rl f l.length;have HDG:Hid (∀s∈Gt rl f l.length,BL s=true):=AC Sg;have RA:=AC (Wn vr rl f l.length w hr hN tC hf AD);obtain ⟨D,hD⟩:=BZ (Gt rl f l.length);rw[hD]at hD1 HDG RA ⊢;obtain ⟨A2,BP,rfl,-,-⟩:=hr;obtain ⟨nr,hnr⟩:=BZ (rl.length);rw[hnr]at RA ⊢;have HB:=AC hb;have HG:=AC hg;have HC:=AC hc;have OW:=hc.le hb;have sc:=AC (fun j=>N4 hb j);have HCT:=AC (fun w1 (a:AA w w1)=>Y6 (.slice A l.length cap) l c w1 (HV.out.later a) hb AD (hg.later a) hc);have HGR:=AC (fun w=>X6 c w AD);have hDl:D.length<=900:=AD;have HDL:=AC (Nat.le_trans (C5 D) hDl);have xw:=AC (oM HDG AD);obtain ⟨L,hL⟩:=BZ (l.length);have XG:=AC hL;rw[hL]at hl JY OW sc HV RA HCT hD1 ⊢;obtain ⟨sty,qx⟩:∃sty:Nat->Int,(fun p=>D.getD p 0)=sty:=⟨_,rfl⟩;have zf:Hid (∀p,D.getD p 0=sty p):=AC (fun p=>by rw[<-qx]);rw[qx];obtain ⟨f1,f2⟩:=hf;clear hv hL hb hg hc hD hN tC qx hnr hDl;go_enter func159,ntmps159;go_wp2_with fail;refine RA.out.mono ?_;rintro e w1 ⟨sv,rfl,b1,s1⟩;have H1:=AC (And.intro b1 s1);clear b1 s1;go_wp2_with fail;refine (HCT _ H1.out.1).mono ?_;rintro e w2 ⟨rfl,b2⟩;have H2:=AC (And.intro (H1.out.1.trans b2) (H1.out.2.later b2));clear b2;go_wp2_with fail;refine (HGR _).mono ?_;rintro e w3 ⟨ov,rfl,b3,o3⟩;have H3:=AC (And.intro (H2.out.1.trans b3) (And.intro (H2.out.2.later b3) (o3.wide H2.out.1.below.size)));clear b3 o3;go_wp2_with fail;go_loopg [7,8,9] c (fun kk sv ov av wr=>AA w wr/\∃j:Nat,kk=c-j/\j<=c/\av=.int .i64 (it l j)/\OF Gf 160 wr w.heap.size ov (Et l sty j)/\∃Q:Aa,Ll w.heap.size wr sv Q/\Mu Q/\Q.length<=900/\RX Q=D.drop (it l j))
 case atStart=>exact ⟨H3.out.1,0,AD,AD,rfl,H3.out.2.2,BM D,H3.out.2.1,xw.out,HDL.out,by rw[aV];rfl⟩
 case round=>
  obtain ⟨AW,j,hk,hj,rfl,ho,Q,hs,hp,hQ,hE⟩:=hrel;have HA:=AC AW;have HO:=AC ho;have HS:=AC hs;have HP:=AC hp;have HE:=AC hE;have Lj:=sc j;obtain ⟨A3,c3,rfl,h3⟩:=ho.form;obtain ⟨A4,c4,rfl,h4⟩:=hs.form;rw[EX]at HO h3 ⊢;obtain ⟨p,mC⟩:=BZ (it l j);have HPP:=AC mC;rw[mC]at Lj HE ⊢;clear ho hs hp hE;by_cases BN:p<L
  ·have yD:j<c:=(HC.out.aF hj).1 (by rw[XG.out,mC];exact BN);obtain ⟨r,k,Ql⟩:∃r k,JH (l.drop p)=(r,k):=⟨_,_,rfl⟩;obtain ⟨u,hu,hcut⟩:=HV.out.cut p (by rw[XG.out];omega);have hrk:=WV (HB.out.drop p);have LX:=Kz (HB.out.drop p);rw[Ql,length_drop,XG.out]at LX;rw[Ql]at hrk;have hk4:=LX.2.2;have O_:=LX.1;have wO:Hid (it l (j+1)=p+k):=AC (by rw[aQ,mC,Ql]);have HD:Hid (Calls prog 198 #[u] wr fun e Bg=>e=.returned (.tuple #[.int .i32 r,.int .i64 (k:Int)])/\AA wr Bg):=AC (aI u (l.drop p) wr r k Ql (hu.later AW) (HB.out.drop p) (by rw[length_drop,XG.out];omega) (HG.out.later AW));have yJ:Hid (Et l sty (j+1)=Et l sty j++[((p:Int),(k:Int),r,sty p)]):=AC (by rw[Yo,mC,Ql]);have HFI:Hid ((Q.head?.map (·.2)).getD 0=sty p):=AC (by rw[<-cR HP.out,HE.out,dx,zf.out]);have HEX:Hid (RX (KA Q k)=D.drop (it l (j+1))):=AC (by rw[Uj HP.out,HE.out,List.drop_drop,wO.out]);have HQP:Hid (Mu (KA Q k)):=AC (Vf HP.out);have HQL:Hid ((KA Q k).length<=900):=AC (Nat.le_trans VF hQ);obtain ⟨y,hy⟩:=BZ (sty p);rw[hy]at yJ HFI;simp only at hk4 O_ hrk
   clear hu Ql LX AW mC hy;go_wp2_with fail;refine HD.out.mono ?_;rintro e w4 ⟨rfl,b4⟩;have H4:=AC (And.intro (HA.out.trans b4) (And.intro (OF.later b4 HO.out) (HS.out.later b4)));clear b4;go_wp2_with fail;refine (YA _ Q _ _ y HFI H4.out.2.2).mono ?_;rintro e w5 ⟨rfl,rfl⟩;obtain ⟨u2,w6,k1,k2,k3,k4⟩:=Z9 aS ((p:Int),(k:Int),r,y) (cs:= #[.int .i64 (p:Int),.int .i64 (k:Int),.int .i32 r,.int .i64 y]) rfl H4.out.2.1 H4.out.1.below.size (by rw[EX];omega);have K1:=AC k1;have K3:=AC (k3 w (le_refl _) H4.out.1);have K2:Hid (OF Gf 160 w6 w.heap.size u2 (Et l sty (j+1))):=AC (by rw[yJ.out];exact k2);have HS6:Hid (Ll w.heap.size w6 (.slice A4 Q.length c4) Q):=AC (H4.out.2.2.grown H4.out.2.1 k4);clear k1 k2 k3 k4;go_wp2_with (at_builtin;refine Lib.wpList_append_run _ rfl _ _ _ _ rfl _ _ rfl rfl _ _ K1.out ?_)
   refine (Uf _ Q k _ _ HS6 HP AD AD).mono ?_;rintro e w7 ⟨u3,rfl,s7,t7⟩;have H7:=AC (And.intro (t7.any (le_refl _) K3.out) (And.intro (t7.K11 K2.out) s7));clear s7 t7;go_wp2_with fail;go_roundg (c-(j+1))
   case measure=>omega
   case rel=>exact ⟨H7.out.1,j+1,rfl,AD,by rw[wO.out,Int.natCast_add],H7.out.2.1,KA Q k,H7.out.2.2,HQP.out,HQL.out,HEX.out⟩
  ·have yD:j=c:=by
    rcases Nat.lt_or_ge j c with h|h
    ·have:=HC.out.lt j h;rw[HPP.out,XG.out]at this;omega
    ·omega
   subst yD;obtain rfl:p=L:=AD
   clear AW mC;go_wp2_with fail;go_ret;exact ⟨_,rfl,HA.out,HO.out⟩
theorem Vv{l:Bc}{m:Int}:∀g f,f<=l.length->∀(j:Nat) (r:Rw),(Lk l m g f)[j]?=some r->∃a b:Nat,r=((a:Int),(b:Int),GW l a b)/\a<=b/\b<=l.length
 |0,_,_,j,r,h=>by simp[Lk]at h
 |g+1,f,hf,j,r,h=>by
  have k:=ku (W:=m) hf;rw[JU]at h
  cases j with
  |zero=>
   rw[List.getElem?_cons_zero,Option.some.injEq]at h;exact ⟨f,_,h.symm,k.1,k.2.1⟩
  |succ j=>
   rw[List.getElem?_cons_succ]at h;split at h
   ·simp at h
   ·exact Vv g _ k.2.1 j r h
theorem lK(l:Bc)(x:Int)(j:Nat)(h:j<(Hq l x).length):∃a b:Nat,(Hq l x)[j]=((a:Int),(b:Int),GW l a b)/\a<=b/\b<=l.length:=Vv _ _ (zero_le _) j _ (List.getElem?_eq_getElem h)
theorem Sy(l:Bc)(x:Int):1<=(Hq l x).length/\(Hq l x).length<=l.length+1:=by
 refine ⟨?_,Sv _ _ _ _⟩;unfold Hq;rw[JU];simp
theorem X1{C:Bc}{a b:Nat}{e:Int}(hb:b<=C.length):Ex C ((a:Int),(b:Int),e)=(C.take b).drop a/\(Ex C ((a:Int),(b:Int),e)).length=b-a:=by
 unfold Ex;simp only[Int.toNat_natCast];exact ⟨trivial,by rw[length_drop,length_take];omega⟩
theorem N6(hb:BX l){sty:Nat->Int}(hl:l.length<=1000)(c:Nat):L1 (Et l sty c):=by
 intro x hx;obtain ⟨j,_,rfl⟩:=List.mem_map.1 hx;have h1:=N4 hb j;have h2:=Kz (hb.drop (it l j));simp only
 omega
theorem L1.part{C:Bc}(h:L1 C)(i j:Nat):L1 ((C.take j).drop i):=fun c hc=>h c (List.mem_of_mem_take (List.mem_of_mem_drop hc))
theorem Gc.part{C:Bc}(h:Gc C)(i j:Nat):Gc ((C.take j).drop i):=fun c hc=>h c (List.mem_of_mem_take (List.mem_of_mem_drop hc))
def Xs:mI:={a1:=none,n1:=0,c1:=0,a2:=none,n2:=0,c2:=0,up:=0,dn:=0,fr:=0,en:=0,la:=false}
theorem xg(n:Nat)(hn:n<=1000)(w:World):∃w2,(Instr.makeSlice 55 (.int .i64 (n:Int)) (.int .i64 (n:Int))).run prog w=.ok (.slice (some ⟨w.heap.size,0,none⟩) n n) w2/\AA w w2/\OF qS 110 w2 w.heap.size (.slice (some ⟨w.heap.size,0,none⟩) n n) (List.replicate n Xs):=vC zp Xs rfl n AD w
theorem eQ{C:Bc}{RW:we}(h:Hq C x=RW)(hn:RW.length=n):FV C x=(range n).map fun j=>UB (Ex C (RW.getD j (0,0,0))) (decide (j+1=n)):=by
 unfold FV;rw[h,hn]
theorem Pi(C:Bc)(x:Int):(FV C x).length<=C.length+1/\∀r∈FV C x,r.cs.length<=C.length/\r.xs.length<=C.length+1:=by
 refine ⟨by rw[RK];exact (Sy C x).2,fun r hr=>?_⟩;obtain ⟨j,-,rfl⟩:=List.mem_map.1 hr;have:(Ex C ((Hq C x).getD j (0,0,0))).length<=C.length:=by
  unfold Ex;rw[length_drop,length_take];omega
 refine ⟨this,?_⟩;show (NI 0 _).length<=_
 rw[C8];omega
theorem il(rl:Aa)(f:Int)(n p:Nat):BO ((Gt rl f n).getD p 0):=by
 rw[getD_eq_getElem?_getD]
 cases h:(Gt rl f n)[p]? with
 |none=>exact ⟨by decide,by decide⟩
 |some s=>exact Ha (Sg s (List.mem_of_getElem? h))
theorem cx(v vr:Value)(l:List Int)(rl:Aa)(f x:Int)(c:Nat)(w:World)(hv:Lr w v l)(hb:BX l)(hl:l.length<=900)(hg:Dh w)(hc:Vr l c)(hr:FH w vr rl)(hN:CV rl)(tC:rl.length<=90000)(hf:BO f)(hx:BO x):
 Calls prog 116 #[v,vr,.int .i64 f,.int .i64 x] w fun e w'=>∃u,e=.returned u/\AA w w'/\RP w' w.heap.size u (FV (Et l (fun p=>(Gt rl f l.length).getD p 0) c) x):=by
 have yx:=AC (m8 v vr l rl f c w hv hb hl hg hc hr hN tC hf);have OW:=hc.le hb;have yr:=WN (sty:=fun p=>(Gt rl f l.length).getD p 0) hb (il rl f l.length) AD c;have fZ:=N6 (sty:=fun p=>(Gt rl f l.length).getD p 0) hb AD c;have hC3:=EX l (fun p=>(Gt rl f l.length).getD p 0) c;obtain ⟨C,hC⟩:=BZ (Et l (fun p=>(Gt rl f l.length).getD p 0) c);rw[hC]at yx yr fZ hC3 ⊢;have HOK:=AC yr;have HSM:=AC fZ;have yN:=AC hC3;have yG:=Sy C x;have HRA:=AC (lK C x);obtain ⟨RW,hRW⟩:=BZ (Hq C x);have HWR:=AC (fun v w (hv:FR Gf w v C)=>bu v C x w hv yr AD hx);rw[hRW]at yG HRA HWR;obtain ⟨n,hn⟩:=BZ (RW.length);have J3:=AC hn;have HLI:=AC (eQ hRW hn);rw[hn]at yG;have aO:=yG.1;have Fx:n<=1000:=AD;have K16:c<=900:=AD;obtain ⟨A,cap,rfl,JY⟩:=hv.form;obtain ⟨A2,BP,rfl,-,-⟩:=hr;generalize l.length=L at *;generalize rl.length=R at *;clear hv hb hl hg hc hN tC hf yr fZ hC3 hC yG hRW hn OW hx;go_enter func116,ntmps116;go_wp2_with fail;refine yx.out.mono ?_;rintro e w1 ⟨u1,rfl,b1,o1⟩;obtain ⟨A3,c3,rfl,h3⟩:=o1.form;rw[yN.out]at o1 h3 ⊢;have H1:=AC (And.intro b1 (OF.fr o1));clear b1 o1;go_wp2_with fail;refine (HWR _ _ H1.out.2).mono ?_;rintro e w2 ⟨u2,rfl,b2,o2⟩;obtain ⟨A4,c4,rfl,h4⟩:=o2.form;have H2:=AC (And.intro (H1.out.1.trans b2) (And.intro (H1.out.2.later b2) (OF.fr o2)));rw[J3.out]at h4 ⊢;clear b2 o2;obtain ⟨w3,k1,k2,k3⟩:=xg n AD w2;have HM:=AC k1;have H3:=AC (And.intro k2 (k3.wide H2.out.1.below.size));have hgp:w2.heap.size<=w2.heap.size:=le_refl _;have hwp:w.heap.size<=w2.heap.size:=H2.out.1.below.size;have hk:=HM.out;obtain ⟨g,hgg⟩:=BZ (w2.heap.size);rw[hgg]at hk H3;have wW:w2.heap.size<=g:=AD;clear k1 k2 k3 hgg HM hgp;go_wp2_with fail;go_loopg [26] n (fun kk iv wr=>AA w2 wr/\∃(j:Nat) (lv:List mI),kk=n-j/\j<=n/\iv=.int .i64 j/\lv.length=n/\OF qS 110 wr w.heap.size (.slice (some ⟨g,0,none⟩) n n) lv/\∀(i:Nat) (h:i<lv.length),i<j->Ju wr w.heap.size lv[i] (UB (Ex C (RW.getD i (0,0,0))) false))
 case atStart=>exact ⟨H3.out.1,0,List.replicate n Xs,AD,AD,rfl,Ar,H3.out.2,fun i h h0=>absurd h0 AD⟩
 case round=>
  obtain ⟨AW,j,lv,Gh,hj,rfl,hlv,ho,hown⟩:=hrel;have HO:=AC ho;have HW:=AC hown;have pV:=AC hlv;clear ho hown hlv;by_cases BN:j<n
  ·have lj:j<RW.length:=by rw[J3.out];exact BN
   obtain ⟨a,b,sD,ha,hb⟩:=HRA j lj;have hrg:RW.getD j (0,0,0)=((a:Int),(b:Int),GW C a b):=by rw[getD_eq_getElem?_getD,List.getElem?_eq_getElem lj,Option.getD_some,sD]
   obtain ⟨e1,e2⟩:=X1 (C:=C) (a:=a) (b:=b) (e:=GW C a b) hb;rw[<-hrg]at e1 e2;obtain ⟨bb,off,eA,bL,c0,c1,c2⟩:=rowAt (H2.out.2.2.later AW) j lj;rw[sD]at c0 c1 c2;simp only at c0 c1 c2
   subst eA;obtain ⟨u5,hu5,hcut⟩:=(H2.out.2.1).wY aS a b ha hb;obtain ⟨E,hE⟩:=BZ (GW C a b);rw[hE]at c2;obtain ⟨P,hP⟩:=BZ ((C.take b).drop a);have o1:=HOK.out.part a b;have o2:=HSM.out.part a b;rw[e1,hP]at e2;rw[hP]at e1 hu5 o1 o2;obtain ⟨m,hm⟩:=BZ (P.length);have VR:m<=900:=by have:=yN.out;omega
   have HRC:=AC (And.intro e1 hm);have HCN:=AC (fun w4 (h:AA w2 w4)=>Yg u5 P w4 (hu5.later h) AD);have HLY:=AC (fun A cap w h=>gX A cap m P w hm h o1 o2 AD);obtain ⟨U,hU⟩:=BZ (UR P);obtain ⟨D,hD⟩:=BZ (UU P);obtain ⟨X,hX⟩:=BZ (rO P);obtain ⟨Y,hY⟩:=BZ (sX P);rw[hU,hD,hX,hY]at HLY;have HLD:Hid (UB (Ex C (RW.getD j (0,0,0))) false=⟨P,NI 0 P,U,D,X,Y,false⟩/\(NI 0 P).length=m+1):=AC ⟨by rw[e1];unfold UB;rw[hU,hD,hX,hY],by rw[C8,hm]⟩;clear e1 e2 sD hE hrg hP hm o1 o2 hu5 hU hD hX hY;have i0:(j:Int)<(n:Int):=AD;go_wp2_with fail;refine AQ (fun wS=>AA wr wS/\wS.heap[wr.heap.size]?=some (.cells #[.int .i64 a,.int .i64 b,.int .i64 E] 184)) ⟨BQ,CG⟩ ?_;rintro w4 ⟨Ao,BK⟩;have OS:=As BK;have Y7:=AC Ao;clear c0 c1 c2 bL Ao;go_wp2_with fail;refine (HCN _ (AW.trans Y7.out)).mono ?_;rintro e w5 ⟨u6,rfl,b5,o5⟩;obtain ⟨A6,c6,rfl,-⟩:=o5.form;rw[HRC.out.2]at o5 ⊢;have H5:=AC (And.intro b5 o5);clear b5 o5;go_wp2_with fail;refine (HLY _ _ _ (OF.fr H5.out.2)).mono ?_;rintro e w6 ⟨A7,c7,rfl,b6,o6⟩;have b46:=Y7.out.trans (H5.out.1.trans b6);have H6:=AC (And.intro b46 (And.intro (OF.later b6 H5.out.2) o6));have HO6:=AC (HO.out.later b46);obtain ⟨g',DZ,cur,e',hB,nK,QH⟩:=HO6.out.where (by rw[pV.out];omega);obtain rfl:g=g':=by cases e';rfl
   have lk:j<lv.length:=by rw[pV.out];omega
   obtain ⟨q,hq⟩:=BZ (lv[j]);obtain ⟨Ty,K20⟩:=DX nK;have q0:w6.cell? ⟨g,j*7,none⟩=some (.slice q.a1 q.n1 q.c1):=by rw[Ty];exact (QH j lk 0 (by decide)).trans (by rw[hq];rfl)
   have q1:w6.cell? ⟨g,j*7+1,none⟩=some (.slice q.a2 q.n2 q.c2):=by rw[Ty];exact (QH j lk 1 (by decide)).trans (by rw[hq];rfl)
   have q2:w6.cell? ⟨g,j*7+2,none⟩=some (.int .i64 q.up):=by rw[Ty];exact (QH j lk 2 (by decide)).trans (by rw[hq];rfl)
   have q3:w6.cell? ⟨g,j*7+3,none⟩=some (.int .i64 q.dn):=by rw[Ty];exact (QH j lk 3 (by decide)).trans (by rw[hq];rfl)
   have q4:w6.cell? ⟨g,j*7+4,none⟩=some (.int .i64 q.fr):=by rw[Ty];exact (QH j lk 4 (by decide)).trans (by rw[hq];rfl)
   have q5:w6.cell? ⟨g,j*7+5,none⟩=some (.int .i64 q.en):=by rw[Ty];exact (QH j lk 5 (by decide)).trans (by rw[hq];rfl)
   have q6:w6.cell? ⟨g,j*7+6,none⟩=some (.bool q.la):=by rw[Ty];exact (QH j lk 6 (by decide)).trans (by rw[hq];rfl)
   have oE:=HO6.out.put (i:=j) ⟨A6,m,c6,A7,m+1,c7,U,D,X,Y,false⟩ lk;have aE:=Gy wW (qS.fl ⟨A6,m,c6,A7,m+1,c7,U,D,X,Y,false⟩) (j*7) w6 (AW.trans H6.out.1);have HE:Hid (AA w2 (w6.setCells g (j*7) [.slice A6 m c6,.slice A7 (m+1) c7,.int .i64 U,.int .i64 D,.int .i64 X,.int .i64 Y,.bool false])/\∃sO:List mI,sO.length=n/\OF qS 110 (w6.setCells g (j*7) [.slice A6 m c6,.slice A7 (m+1) c7,.int .i64 U,.int .i64 D,.int .i64 X,.int .i64 Y,.bool false]) w.heap.size (.slice (some ⟨g,0,none⟩) n n) sO/\∀(i:Nat) (h:i<sO.length),i<j+1->Ju (w6.setCells g (j*7) [.slice A6 m c6,.slice A7 (m+1) c7,.int .i64 U,.int .i64 D,.int .i64 X,.int .i64 Y,.bool false]) w.heap.size sO[i] (UB (Ex C (RW.getD i (0,0,0))) false)):=AC (by
    refine ⟨aE,_,by rw[length_set];exact pV.out,oE,fun i hi fD=>?_⟩;have nc:∀y r,Ju w6 w.heap.size y r->Ju (w6.setCells g (j*7) [.slice A6 m c6,.slice A7 (m+1) c7,.int .i64 U,.int .i64 D,.int .i64 X,.int .i64 Y,.bool false]) w.heap.size y r:=fun y r hy=>⟨⟨Ev (by decide) _ _ _ _ nK hy.1.1,Ev (by decide) _ _ _ _ nK hy.1.2⟩,hy.2⟩
    by_cases e:i=j
    ·subst e;rw[List.getElem_set_self,HLD.out.1];refine nc _ _ ⟨⟨?_,?_⟩,rfl,rfl,rfl,rfl,rfl⟩
     ·exact OF.wide (by have:=AW.below.size;have:=Y7.out.below.size;omega) H6.out.2.1
     ·exact ON.wide (by have:=AW.below.size;have:=Y7.out.below.size;have:=H5.out.1.below.size;omega) H6.out.2.2
    ·rw[List.getElem_set_ne AD];rw[length_set]at hi;exact nc _ _ ((HW i hi AD).later H6.out.1))
   clear b6 o6 b46 QH hq e' Ty AW nK oE aE;go_wp2_with fail;go_roundg (n-(j+1))
   case measure=>omega
   case rel=>
    obtain ⟨h1,sO,h2,h3,h4⟩:=HE.out;exact ⟨h1,j+1,sO,rfl,AD,by go_num,h2,h3,h4⟩
  ·obtain rfl:j=n:=AD
   obtain ⟨g',DZ,cur,e',hB,qr,QH⟩:=HO.out.where (by rw[pV.out];omega);obtain rfl:g=g':=by cases e';rfl
   have lk:j-1<lv.length:=by rw[pV.out];omega
   obtain ⟨q,hq⟩:=BZ (lv[j-1]);obtain ⟨vW,X19⟩:=DX qr;have cc:wr.cell? ⟨g,(j-1)*7+6,none⟩=some (.bool q.la):=by rw[vW];exact (QH (j-1) lk 6 (by decide)).trans (by rw[hq];rfl)
   have oE:=HO.out.field (i:=j-1) {q with la:=true} 6 (.bool true) lk (by decide) (by rw[hq];rfl);have aE:=H2.out.1.trans (AW.setCell (p:=⟨g,(j-1)*7+6,none⟩) wW (.bool true));have HE:Hid (RP (wr.setCell ⟨g,(j-1)*7+6,none⟩ (.bool true)) w.heap.size (.slice (some ⟨g,0,none⟩) j j) (FV C x)):=AC (by
    rw[HLI.out];refine ⟨_,oE,by simp[pV.out],fun i hi hi'=>?_⟩;have nc:∀y r,Ju wr w.heap.size y r->Ju (wr.setCell ⟨g,(j-1)*7+6,none⟩ (.bool true)) w.heap.size y r:=fun y r hy=>⟨⟨JJ qr (by decide) (.bool true) _ hy.1.1,JJ qr (by decide) (.bool true) _ hy.1.2⟩,hy.2⟩
    rw[length_set,pV.out]at hi;rw[List.getElem_map,List.getElem_range];have hw:=nc _ _ (HW i (by rw[pV.out];exact hi) hi);by_cases e:i=j-1
    ·subst e;rw[List.getElem_set_self,decide_eq_true AD];rw[hq]at hw;exact ⟨hw.1,hw.2.1,hw.2.2.1,hw.2.2.2.1,hw.2.2.2.2.1,rfl⟩
    ·rw[List.getElem_set_ne AD,decide_eq_false AD];exact hw)
   have HAE:=AC aE;clear oE aE QH hq e' vW;go_wp2_with fail;go_ret;exact ⟨_,rfl,HAE.out,HE.out⟩
theorem Gu(n:Int)(w:World)(c:Bool)(hc:decide (0<=n/\n<=1048576)=c)(hn:BO n):Calls prog 183 #[.int .i64 n] w fun e w'=>e=.returned (.bool c)/\w=w':=by
 obtain ⟨h1,h2⟩:=hn;by_cases q:0<=n
 ·have HC:Hid (decide (n<=1048576)=c):=AC (by rw[<-hc];simp[q]);clear hc;go_enter func183,ntmps183;go_wp2_with fail;go_ret;exact ⟨Am HC.out,rfl⟩
 ·have d0:decide (0<=n)=false:=decide_eq_false q;have HC:Hid (false=c):=AC (by rw[<-hc];simp[q]);clear hc q;go_enter func183,ntmps183;go_wp2_with fail;go_ret;exact ⟨Am HC.out,rfl⟩
theorem Ut(a1 a2:Option Addr)(n1 c1 n2 c2:Nat)(u d f t:Int)(la:Bool)(w:World)(c:Int)(hc:nG u d=c)(hu:BO u)(hd:BO d):
 Calls prog 135 #[.agg #[.slice a1 n1 c1,.slice a2 n2 c2,.int .i64 u,.int .i64 d,.int .i64 f,.int .i64 t,.bool la]] w fun e w'=>e=.returned (.int .i64 c)/\AA w w':=by
 by_cases q:0<=u/\u<=1048576
 ·have H1:=AC (fun w=>Gu u w true (by simp[q]) hu);by_cases q2:0<=d/\d<=1048576
  ·have H2:=AC (fun w=>Gu d w true (by simp[q2]) hd);have HC:Hid (u+d=c):=AC (by rw[<-hc];unfold nG;rw[if_neg AD]);obtain ⟨q1,q3⟩:=q;obtain ⟨q4,q5⟩:=q2;clear hc hu hd;go_enter func135,ntmps135;go_wp2_with fail;refine AQ (fun wS=>AA w wS/\wS.heap[w.heap.size]?=some (.cells #[.slice a1 n1 c1,.slice a2 n2 c2,.int .i64 u,.int .i64 d,.int .i64 f,.int .i64 t,.bool la] 110)) ⟨BQ,CG⟩ ?_;rintro w1 ⟨AJ,AH⟩;have AG:=AJ;have B7:=AE AH;refine (H1 _).mono ?_;rintro e w2 ⟨rfl,rfl⟩;go_wp2_with fail;refine (H2 _).mono ?_;rintro e w2 ⟨rfl,rfl⟩;go_wp2_with fail;go_ret;exact ⟨CZ HC.out,AG⟩
  ·have H2:=AC (fun w=>Gu d w false (by simp only[decide_eq_false_iff_not];exact q2) hd);have HC:Hid (0=c):=AC (by rw[<-hc];unfold nG;rw[if_pos AD]);clear hc hu hd q q2;go_enter func135,ntmps135;go_wp2_with fail;refine AQ (fun wS=>AA w wS/\wS.heap[w.heap.size]?=some (.cells #[.slice a1 n1 c1,.slice a2 n2 c2,.int .i64 u,.int .i64 d,.int .i64 f,.int .i64 t,.bool la] 110)) ⟨BQ,CG⟩ ?_;rintro w1 ⟨AJ,AH⟩;have AG:=AJ;have B7:=AE AH;refine (H1 _).mono ?_;rintro e w2 ⟨rfl,rfl⟩;go_wp2_with fail;refine (H2 _).mono ?_;rintro e w2 ⟨rfl,rfl⟩;go_wp2_with fail;go_ret;exact ⟨CZ HC.out,AG⟩
 ·have H1:=AC (fun w=>Gu u w false (by simp only[decide_eq_false_iff_not];exact q) hu);have HC:Hid (0=c):=AC (by rw[<-hc];unfold nG;rw[if_pos AD]);clear hc hu hd q;go_enter func135,ntmps135;go_wp2_with fail;refine AQ (fun wS=>AA w wS/\wS.heap[w.heap.size]?=some (.cells #[.slice a1 n1 c1,.slice a2 n2 c2,.int .i64 u,.int .i64 d,.int .i64 f,.int .i64 t,.bool la] 110)) ⟨BQ,CG⟩ ?_;rintro w1 ⟨AJ,AH⟩;have AG:=AJ;have B7:=AE AH;refine (H1 _).mono ?_;rintro e w2 ⟨rfl,rfl⟩;go_wp2_with fail;go_ret;exact ⟨CZ HC.out,AG⟩
theorem lD(v:Value)(L:List Ld)(w:World)(s:Int)(hs:GT L=s)(hv:LR w v L)(hN:j0 L)(hl:L.length<=1000):Calls prog 91 #[v] w fun e w'=>e=.returned (.int .i64 s)/\AA w w':=by
 obtain ⟨A,cap,rfl,hc⟩:=hv.form;have HV:=AC hv;have J3:=AC hN;have HS:=AC hs;obtain ⟨n,hn⟩:=BZ (L.length);have HL:=AC hn;rw[hn]at HV hc hl ⊢;clear hv hN hn hs;go_enter func91,ntmps91;go_wp2_with fail;go_loopg [3,8] n (fun kk sv iv wr=>AA w wr/\∃j:Nat,kk=n-j/\j<=n/\iv=.int .i64 j/\sv=.int .i64 (GT (L.take j)))
 case atStart=>exact ⟨AA.refl w,0,AD,AD,rfl,rfl⟩
 case round=>
  obtain ⟨AW,j,hk,hj,rfl,rfl⟩:=hrel;have HA:=AC AW;have hx:=nJ (L.take j);rw[length_take,HL.out,Nat.min_eq_left hj]at hx;by_cases BN:j<n
  ·have lj:j<L.length:=by rw[HL.out];exact BN
   have i0:(j:Int)<(n:Int):=AD;have HT:=AC (fF lj);obtain ⟨x,Wm⟩:=BZ (GT (L.take j));rw[Wm]at hx HT ⊢;obtain ⟨x0,x1⟩:=hx;obtain ⟨b,off,a1,k1,a2,k2,rfl,hb,-,d0,d1,d2,d3,d4,d5,d6⟩:=r_ (HV.out.later AW) j lj;have IO:=J3 L[j] (getElem_mem lj);obtain ⟨p,hp⟩:=BZ (L[j]);rw[hp]at HT d0 d1 d2 d3 d4 d5 d6 IO;obtain ⟨y,hy⟩:=BZ (Tv p);have fS:=jq p;rw[hy]at fS HT;obtain ⟨y0,y1⟩:=fS;have HH:=AC (fun w=>Ut a1 a2 p.cs.length k1 p.xs.length k2 p.up p.dn p.fr p.en p.la w y hy IO.1.1 IO.1.2.1);clear Wm hp IO hy;go_wp2_with fail;refine AQ (fun wS=>AA wr wS/\wS.heap[wr.heap.size]?=some (.cells #[.slice a1 p.cs.length k1,.slice a2 p.xs.length k2,.int .i64 p.up,.int .i64 p.dn,.int .i64 p.fr,.int .i64 p.en,.bool p.la] 110)) ⟨BQ,CG⟩ ?_;rintro w1 ⟨AJ,AH⟩;refine (HH _).mono ?_;rintro e w2 ⟨rfl,AL⟩;have HB:=AC (HA.out.trans (AJ.trans AL));clear AL;go_wp2_with fail;go_roundg (n-(j+1))
   case measure=>omega
   case rel=>exact ⟨HB.out,j+1,rfl,AD,by go_num,by rw[HT.out]⟩
  ·obtain rfl:j=n:=AD
   have HE:Hid (GT (L.take j)=s):=AC (by rw[<-HS.out,List.take_of_length_le (by rw[HL.out];exact le_refl _)]);clear AW;go_wp2_with fail;go_ret;exact ⟨CZ HE.out,HA.out⟩
def zy(T:List Int)(f:Int)(p:Nat):Int:=if 0<=f/\f<=16777216 then T.getD (f.toNat+p) 0 else 0
theorem iT(h:(AM rl).length<=16777216)(f:Int){n p:Nat}(hp:p<n):(Gt rl f n).getD p 0=zy (AM rl) f p:=by
 unfold Gt zy;split
 ·rename_i hf
  rw[GY h];generalize AM rl=T;obtain ⟨F,rfl⟩:=Int.eq_ofNat_of_zero_le hf.1;unfold IG De;rw[getD_eq_getElem?_getD,getD_eq_getElem?_getD,List.getElem?_drop];simp only[Int.ofNat_eq_natCast,Int.toNat_natCast];rw[show ((F:Int)+(n:Int)).toNat=F+n by omega];by_cases q:F<=T.length
  ·rw[Nat.min_eq_left q];by_cases q2:F+p<T.length
   ·rw[List.getElem?_take_of_lt AD]
   ·rw[getElem?_eq_none (by rw[length_take];omega),getElem?_eq_none AD]
  ·rw[getElem?_eq_none (by rw[length_take];omega),getElem?_eq_none AD]
 ·rfl
theorem sZ:prog.stoodInHeld 160=false:=AY
theorem oX:prog.underlying 160=some (.struct (prog.fieldsOf 160)):=AY
theorem rc:prog.eqGuardType prog.depth 160=false:=AY
theorem xM(a n r s a2 n2 r2 s2:Int)(w:World):(Op.equalIn 10000 160 (.agg #[.int .i64 a,.int .i64 n,.int .i32 r,.int .i64 s]) (.agg #[.int .i64 a2,.int .i64 n2,.int .i32 r2,.int .i64 s2])).run prog w=.ok (decide ((a,n,r,s)=(a2,n2,r2,s2))) w:=by
 rw[run_equalIn_agg w 9999 _ _ _ oX sZ];by_cases h1:a=a2
 ·by_cases h2:n=n2
  ·by_cases h3:r=r2
   ·by_cases h4:s=s2
    ·simp[go_sem,h1,h2,h3,h4]
    ·simp[go_sem,h1,h2,h3,h4]
   ·simp[go_sem,h1,h2,h3]
  ·simp[go_sem,h1,h2]
 ·simp[go_sem,h1]
theorem si(a n r s a2 n2 r2 s2:Int)(w:World):(binOp .neq 160 (.agg #[.int .i64 a,.int .i64 n,.int .i32 r,.int .i64 s]) (.agg #[.int .i64 a2,.int .i64 n2,.int .i32 r2,.int .i64 s2])).run prog w=.ok (.bool (!(decide ((a,n,r,s)=(a2,n2,r2,s2))))) w:=by
 rw[run_neq_struct,xM];rfl
theorem eW(v v2:Value)(l:Bc)(w:World)(h:FR Gf w v l)(h2:FR Gf w v2 l)(hn:l.length<=100000):
 Calls prog 74 #[v,v2] w fun e w'=>e=.returned (.bool true)/\AA w w':=by
 obtain ⟨A,cap,rfl,hc⟩:=h.form;obtain ⟨A2,BP,rfl,D4⟩:=h2.form;have H:=AC (And.intro h h2);obtain ⟨n,hl⟩:=BZ (l.length);have HL:=AC hl;rw[hl]at H hc D4 hn ⊢;have gb:=rc;have nb:=si;clear h h2 hl;go_enter func74,ntmps74;go_wp2_with fail;go_loopg [5] n (fun k i wr=>AA w wr/\∃j:Nat,k=n-j/\j<=n/\i=.int .i64 j)
 case atStart=>exact ⟨AA.refl _,0,AD,AD,rfl⟩
 case round=>
  obtain ⟨AW,j,hk,hj,rfl⟩:=hrel;have HA:=AC AW;by_cases BN:j<n
  ·have lj:j<l.length:=by rw[HL.out];exact BN
   have i1:(j:Int)<(n:Int):=AD;obtain ⟨b,off,rfl,hb,c0,c1,c2,c3⟩:=Lq (H.out.1.later AW) j lj;obtain ⟨b2,Km,rfl,Hr,e0,e1,e2,e3⟩:=Lq (H.out.2.later AW) j lj;generalize l[j]=x at *;obtain ⟨ca,cn,cr,cs⟩:=x;simp only at c0 c1 c2 c3 e0 e1 e2 e3
   have hd:decide ((ca,cn,cr,cs)=(ca,cn,cr,cs))=true:=decide_eq_true rfl;clear AW;go_wp2_with fail
   go_quiet (fail)
   go_wp2_with fail;go_roundg (n-(j+1))
   case measure=>omega
   case rel=>exact ⟨HA.out.drewN _,j+1,rfl,BN,by go_num⟩
  ·obtain rfl:j=n:=AD
   clear AW;go_wp2_with fail;go_ret;exact ⟨rfl,HA.out⟩
theorem kT:∀(P:Bc) (x y:Int),y∈NI x P->x<=y/\y<=x+48*P.length
 |[],x,y,h=>by
  rw[show NI x []=[x] from rfl,List.mem_singleton]at h;simp;omega
 |c::P,x,y,h=>by
  have h2:=Mw c.2.2.1 c.2.2.2 x;rw[show NI x (c::P)=x::NI (x+Of c x) P from rfl,List.mem_cons]at h;rw[List.length_cons];rcases h with rfl|h
  ·omega
  ·have:=kT P _ y h
   unfold Of at *;omega
theorem oY{P:Bc}(h1:Gc P)(h2:L1 P)(hl:P.length<=1000):um (UB P la):=by
 have hu:=T0 P;have hd:=T7 P;refine ⟨⟨?_,?_,?_,?_⟩,h1,fun x hx=>?_⟩
 ·show BO (UR P)
  constructor <;> omega
 ·show BO (UU P)
  constructor <;> omega
 ·show BO (rO P)
  rcases Nat.eq_zero_or_pos P.length with q|q
  ·rw[List.eq_nil_of_length_eq_zero q];constructor <;> decide
  ·rw[iE q];have:=h2 _ (getElem_mem q)
   constructor <;> omega
 ·show BO (sX P)
  rcases Nat.eq_zero_or_pos P.length with q|q
  ·rw[List.eq_nil_of_length_eq_zero q];constructor <;> decide
  ·obtain ⟨k,hk⟩:∃k,P.length=k+1:=⟨P.length-1,AD⟩;rw[lp hk];have:=h2 (P[k]'AD) (getElem_mem _)
   constructor <;> omega
 ·have:=kT P 0 x hx
  constructor <;> omega
theorem dh{C:Bc}(h1:Gc C)(h2:L1 C)(hl:C.length<=1000):j0 (FV C x):=by
 intro r hr;obtain ⟨j,-,rfl⟩:=List.mem_map.1 hr;have:(Ex C ((Hq C x).getD j (0,0,0))).length<=C.length:=by
  unfold Ex;rw[length_drop,length_take];omega
 exact oY (h1.part _ _) (h2.part _ _) AD
theorem oQ{P:Bc}:0<=Tv (UB P la)/\Tv (UB P la)<=17:=by
 have hu:=T0 P;have hd:=T7 P;show 0<=nG (UR P) (UU P)/\nG (UR P) (UU P)<=17
 unfold nG;split <;> omega
theorem ZM:∀(L:List Ld),(∀r∈L,0<=Tv r/\Tv r<=17)->0<=GT L/\GT L<=17*L.length:=by
 have:∀(L:List Ld) (s:Int),(∀r∈L,0<=Tv r/\Tv r<=17)->s<=L.foldl (fun s r=>s+Tv r) s/\L.foldl (fun s r=>s+Tv r) s<=s+17*L.length:=by
  intro L
  induction L with
  |nil=>intro s _;simp
  |cons r L ih=>
   intro s h;have h1:=h r Ar;have h2:=ih (s+Tv r) (fun q hq=>h q (List.mem_cons_of_mem _ hq));rw[List.foldl_cons,List.length_cons];omega
 intro L h;have:=this L 0 h
 unfold GT;omega
theorem Xh(C:Bc)(x:Int):0<=GT (FV C x)/\GT (FV C x)<=17*(FV C x).length:=
 ZM _ (fun r hr=>by
  obtain ⟨j,-,rfl⟩:=List.mem_map.1 hr;exact oQ)
theorem dm(v v2:Value)(L:List Ld)(w:World)(h:LR w v L)(h2:LR w v2 L)(hn:L.length<=1000)(hC:∀r∈L,r.cs.length<=100000/\r.xs.length<=100000):
 Calls prog 24 #[v,v2] w fun e w'=>e=.returned (.bool true)/\AA w w':=by
 obtain ⟨A,cap,rfl,hc⟩:=h.form;obtain ⟨A2,BP,rfl,D4⟩:=h2.form;have H:=AC (And.intro h h2);have HC:=AC hC;obtain ⟨n,hl⟩:=BZ (L.length);have HL:=AC hl;rw[hl]at H hc D4 hn ⊢;clear h h2 hl hC;go_enter func24,ntmps24;go_wp2_with fail;go_loopg [5] n (fun k i wr=>AA w wr/\∃j:Nat,k=n-j/\j<=n/\i=.int .i64 j)
 case atStart=>exact ⟨AA.refl _,0,AD,AD,rfl⟩
 case round=>
  obtain ⟨Ws,j,hk,hj,rfl⟩:=hrel;generalize wr=wo at *;have HA:=AC Ws;by_cases BN:j<n
  ·have lj:j<L.length:=by rw[HL.out];exact BN
   have i1:(j:Int)<(n:Int):=AD;obtain ⟨b,off,a1,k1,a2,k2,rfl,hb,qZ,c0,c1,c2,c3,c4,c5,c6⟩:=r_ (H.out.1.later Ws) j lj;obtain ⟨b',Yj,e1,m1,e2,m2,rfl,Rh,tK,d0,d1,d2,d3,d4,d5,d6⟩:=r_ (H.out.2.later Ws) j lj;have hlen:=HC L[j] (getElem_mem lj);obtain ⟨r,hr⟩:=BZ (L[j]);rw[hr]at qZ tK hlen c0 c1 c2 c3 c4 c5 c6 d0 d1 d2 d3 d4 d5 d6;obtain ⟨n1,aO⟩:=BZ (r.cs.length);obtain ⟨n2,Fx⟩:=BZ (r.xs.length);have HN:=AC (And.intro aO Fx);have qN:=hlen.1;have HX:=AC (fun w2 (a:AA wo w2)=>eW _ _ r.cs w2 (qZ.1.later a) (tK.1.later a) qN);have HI:=AC (And.intro qZ.2 tK.2);rw[aO]at HX c0 d0;rw[Fx]at HI hlen c1 d1;obtain ⟨-,Q17⟩:=hlen;generalize r.up=up at *;generalize r.dn=dn at *;generalize r.fr=fr at *;generalize r.en=en at *;generalize r.la=la at *;obtain ⟨xs,yl⟩:=BZ (r.xs);rw[yl]at HI HN;clear qZ tK hr aO Fx qN yl;go_wp2_with fail
   go_region
   ·go_upto_region 7 with fail
    refine BW (fun wS=>AA wo wS/\wS.heap[wo.heap.size]?=some (.cells #[.slice a1 n1 k1,.slice a2 n2 k2,.int .i64 up,.int .i64 dn,.int .i64 fr,.int .i64 en,.bool la] 110)/\wS.heap[wo.heap.size+1]?=some (.cells #[.slice e1 n1 m1,.slice e2 n2 m2,.int .i64 up,.int .i64 dn,.int .i64 fr,.int .i64 en,.bool la] 110)) ⟨BQ,CG,CG⟩ ?_;rintro w3 ⟨AX,Ah,BD⟩;have An:=Ws.trans AX;obtain ⟨CB,Fu,Jv⟩:=GH Ah;obtain ⟨Dm,FE,JI⟩:=GH BD;have gj:=AX.below.size;obtain ⟨p,hp⟩:=BZ (wo.heap.size);rw[hp]at Ah BD CB Dm Fu FE Jv JI ⊢;clear hp;go_wp2_with fail;refine (HX _ AX).mono ?_;rintro e w4 ⟨rfl,Ao⟩;have Bl:=An.trans Ao;have BK:=AB Ao Ah;have CE:=AB Ao BD;have Dz:=AE BK;have Is:=AE CE;(try clear CB Fu);(try clear Dm FE);have KU:=AX.trans Ao;have mX:=AC (And.intro (HI.out.1.later KU) (HI.out.2.later KU));have WP:=AC (HA.out.trans KU);clear AX Ao KU Ws An Bl gj Jv JI HX;go_wp2_with fail;go_loopg [8] n2 (fun kk iv ws=>AA w4 ws/\∃i:Nat,kk=n2-i/\i<=n2/\iv=.int .i64 i)
    case atStart=>exact ⟨AA.refl w4,0,AD,AD,rfl⟩
    case round=>
     obtain ⟨AW,i,hki,hin,rfl⟩:=hrel;have EW:=AW;have Bl:=WP.out;have AW:=Bl.trans EW;have CR:=AB EW BK;have Fs:=AB EW CE;have Dy:=AE CR;have J6:=AE Fs;(try clear Dz);(try clear Is);have zX:=AC AW;by_cases JQ:i<n2
     ·have li:i<xs.length:=by rw[HN.out.2];exact JQ
      have i2:(i:Int)<(n2:Int):=AD;obtain ⟨b3,X13,rfl,hb3,q0⟩:=Zu (mX.out.1.later EW) i li;obtain ⟨b4,Y14,rfl,hb4,q1⟩:=Zu (mX.out.2.later EW) i li;generalize xs[i]=y at *;go_wp2_with fail
      go_quiet (fail)
      go_wp2_with fail;go_roundg (n2-(i+1))
      case measure=>omega
      case rel=>exact ⟨EW.drewN nq,i+1,rfl,AD,by go_num⟩
     ·obtain rfl:i=n2:=AD
      go_wp2_with fail;go_roundg (n-(j+1))
      case measure=>omega
      case rel=>exact ⟨zX.out,j+1,rfl,AD,by go_num⟩
   ·go_upto_region 7 with fail
    refine BW (fun wS=>AA wo wS/\wS.heap[wo.heap.size+1]?=some (.cells #[.slice a1 n1 k1,.slice a2 n2 k2,.int .i64 up,.int .i64 dn,.int .i64 fr,.int .i64 en,.bool la] 110)/\wS.heap[wo.heap.size]?=some (.cells #[.slice e1 n1 m1,.slice e2 n2 m2,.int .i64 up,.int .i64 dn,.int .i64 fr,.int .i64 en,.bool la] 110)) ⟨BQ,CG,CG⟩ ?_;rintro w3 ⟨AX,Ah,BD⟩;have An:=Ws.trans AX;obtain ⟨CB,Fu,Jv⟩:=GH Ah;obtain ⟨Dm,FE,JI⟩:=GH BD;have gj:=AX.below.size;obtain ⟨p,hp⟩:=BZ (wo.heap.size);rw[hp]at Ah BD CB Dm Fu FE Jv JI ⊢;clear hp;go_wp2_with fail;refine (HX _ AX).mono ?_;rintro e w4 ⟨rfl,Ao⟩;have Bl:=An.trans Ao;have BK:=AB Ao Ah;have CE:=AB Ao BD;have Dz:=AE BK;have Is:=AE CE;(try clear CB Fu);(try clear Dm FE);have KU:=AX.trans Ao;have mX:=AC (And.intro (HI.out.1.later KU) (HI.out.2.later KU));have WP:=AC (HA.out.trans KU);clear AX Ao KU Ws An Bl gj Jv JI HX;go_wp2_with fail;go_loopg [8] n2 (fun kk iv ws=>AA w4 ws/\∃i:Nat,kk=n2-i/\i<=n2/\iv=.int .i64 i)
    case atStart=>exact ⟨AA.refl w4,0,AD,AD,rfl⟩
    case round=>
     obtain ⟨AW,i,hki,hin,rfl⟩:=hrel;have EW:=AW;have Bl:=WP.out;have AW:=Bl.trans EW;have CR:=AB EW BK;have Fs:=AB EW CE;have Dy:=AE CR;have J6:=AE Fs;(try clear Dz);(try clear Is);have zX:=AC AW;by_cases JQ:i<n2
     ·have li:i<xs.length:=by rw[HN.out.2];exact JQ
      have i2:(i:Int)<(n2:Int):=AD;obtain ⟨b3,X13,rfl,hb3,q0⟩:=Zu (mX.out.1.later EW) i li;obtain ⟨b4,Y14,rfl,hb4,q1⟩:=Zu (mX.out.2.later EW) i li;generalize xs[i]=y at *;go_wp2_with fail
      go_quiet (fail)
      go_wp2_with fail;go_roundg (n2-(i+1))
      case measure=>omega
      case rel=>exact ⟨EW.drewN nq,i+1,rfl,AD,by go_num⟩
     ·obtain rfl:i=n2:=AD
      go_wp2_with fail;go_roundg (n-(j+1))
      case measure=>omega
      case rel=>exact ⟨zX.out,j+1,rfl,AD,by go_num⟩
  ·obtain rfl:j=n:=AD
   clear Ws;go_wp2_with fail;go_ret;exact ⟨rfl,HA.out⟩
end
end Go.Proofs.YtamhnffokoejjaaGreatDoor
