import Derived.Deep.OwnRows
import Derived.Test.YtamhnffokoejjaaGreatDoorKwan
import Derived.Test.YtamhnffokoejjaaGreatDoorKwax
set_option linter.all false
set_option maxHeartbeats 3200000
set_option maxRecDepth 100000
namespace Go.Proofs.YtamhnffokoejjaaGreatDoor
open List(length_take take_of_length_le getElem_mem replicate length_append length_replicate replicate_succ mem_cons foldl_append foldl_cons length_cons)
open Nat(le_refl sub_self zero_mul add_zero)
open Go.Proofs.Tryz
open Go.RowKit
section
variable{R l:Aa}{W:Int}{r:Int × Int}{B cap f j k n t:Nat}{A:Option Addr}{v:Value}{w w':World}
theorem Lq{l:Bc}(h:FR Gf w (.slice A n cap) l)(j:Nat)(hj:j<l.length):∃b off,A=some ⟨b,off,none⟩/\b<w.heap.size/\
 w.cell? ⟨b,off+j*4,none⟩=some (.int .i64 l[j].1)/\w.cell? ⟨b,off+j*4+1,none⟩=some (.int .i64 l[j].2.1)/\w.cell? ⟨b,off+j*4+2,none⟩=some (.int .i32 l[j].2.2.1)/\w.cell? ⟨b,off+j*4+3,none⟩=some (.int .i64 l[j].2.2.2):=by
 obtain ⟨b,off,e,hb,hc⟩:=h.at j hj;exact ⟨b,off,e,hb,hc 0 _ rfl,hc 1 _ rfl,hc 2 _ rfl,hc 3 _ rfl⟩
theorem FH.takeN(h:FH w (.slice A l.length cap) l)(n:Nat)(hn:n<=l.length):FH w (.slice A n cap) (l.take n):=by
 obtain ⟨A',DZ,e,h2,h3⟩:=h;cases e;have hl:(l.take n).length=n:=by rw[length_take];omega
 refine ⟨A,cap,by rw[hl],by rw[hl];omega,fun h0=>?_⟩;rw[hl]at h0;obtain ⟨b,off,rfl,hb,hc⟩:=h3 AD;refine ⟨b,off,rfl,hb,fun j hj=>?_⟩;rw[hl]at hj;rw[List.getElem_take];exact hc j AD
theorem dd(v:Value)(l:Aa)(w:World)(hv:FH w v l):
 Calls prog 54 #[v] w fun e w'=>∃u,e=.returned u/\AA w w'/\Ge w' w.heap.size u (l.take 40):=by
 obtain ⟨A,cap,rfl,hc,h3⟩:=hv;have HV:Hid (FH w (.slice A l.length cap) l):=AC ⟨A,cap,rfl,hc,h3⟩;obtain ⟨n,hn⟩:=BZ (l.length);have J3:=AC hn;rw[hn]at HV hc ⊢;clear h3;have HX:Hid (∀a2 c2,FH w (.slice a2 (l.take 40).length c2) (l.take 40)->∃u w2,(Builtin.append_ #[35,35] 35 #[.slice (some ⟨w.heap.size,0,none⟩) 0 0,.slice a2 (l.take 40).length c2]).run prog (w.alloc (.cells #[] 76))=.ok u w2/\AA w w2/\Ge w2 w.heap.size u (l.take 40)):=
  AC (fun a2 c2 h2=>WL h2 (by rw[length_take];omega))
 by_cases q:40<n
 ·have hl:(l.take 40).length=40:=by rw[length_take];omega
  have hr:FH w (.slice A (l.take 40).length cap) (l.take 40):=by
   rw[hl];have h:=HV.out;rw[<-J3.out]at h;exact h.takeN 40 AD
  obtain ⟨u,w2,k1,k2,k3⟩:=HX A cap hr;rw[hl]at k1;have K1:=AC k1;have KK:=AC (And.intro k2 k3);clear k1 k2 k3 hr hl hn;go_enter func54,ntmps54;go_wp2_with (at_builtin;refine Lib.wpList_append_run _ rfl _ _ _ _ rfl _ _ rfl rfl _ _ K1.out ?_)
  go_ret;exact ⟨_,rfl,KK.out.1,KK.out.2⟩
 ·have hl:l.take 40=l:=take_of_length_le AD;have hr:FH w (.slice A (l.take 40).length cap) (l.take 40):=by
   rw[hl,J3.out];exact HV.out
  obtain ⟨u,w2,k1,k2,k3⟩:=HX A cap hr;rw[hl,J3.out]at k1;have K1:=AC k1;have KK:=AC (And.intro k2 k3);have dq:decide ((40:Int)<(n:Int))=false:=by simp;omega
  clear k1 k2 k3 hr hl hn;go_enter func54,ntmps54;go_wp2_with (at_builtin;refine Lib.wpList_append_run _ rfl _ _ _ _ rfl _ _ rfl rfl _ _ K1.out ?_)
  go_ret;exact ⟨_,rfl,KK.out.1,KK.out.2⟩
theorem Ik{l:Bc}(h:j<l.length):l.take (j+1)=l.take j++[l[j]]:=List.take_succ_eq_append_getElem h
theorem wN(v:Value)(l:Bc)(w:World)(hv:FR Gf w v l)(hN:Gc l)(hl:l.length<=4000):
 Calls prog 138 #[v] w fun e w'=>∃u,e=.returned u/\AA w w'/\ON .i64 3 w' w.heap.size u (NI 0 l):=by
 obtain ⟨A,cap,rfl,hc⟩:=hv.form;have HV:=AC hv;have J3:=AC hN;obtain ⟨n,hn⟩:=BZ (l.length);have HL:=AC hn;rw[hn]at HV hc hl ⊢;clear hv hN hn;go_enter func138,ntmps138;go_wp2_with fail;go_loopg [3,4,5] n (fun kk sv xv iv wr=>AA w wr/\∃j:Nat,kk=n-j/\j<=n/\iv=.int .i64 j/\xv=.int .i64 (Ij 0 (l.take j))/\ON .i64 3 wr w.heap.size sv (NI 0 (l.take j)))
 case atStart=>exact ⟨(AA.refl w).alloc _,0,AD,AD,rfl,rfl,ON.one (le_refl _) (Ae rfl)⟩
 case round=>
  obtain ⟨AW,j,hk,hj,rfl,rfl,ho⟩:=hrel;have HA:=AC AW;have HO:=AC ho;obtain ⟨A3,c3,rfl,h3⟩:=ho.form;have hlen:(NI 0 (l.take j)).length=j+1:=by rw[C8,length_take,HL.out];omega
  rw[hlen]at HO h3 ⊢;have hx:=O5 (l.take j) 0;have JQ:(l.take j).length=j:=by rw[length_take,HL.out];omega
  rw[JQ]at hx;obtain ⟨x,Wm⟩:=BZ (Ij 0 (l.take j));have HXX:=AC Wm;rw[Wm]at hx ⊢;obtain ⟨x0,x1⟩:=hx;clear ho Wm JQ;by_cases BN:j<n
  ·have lj:j<l.length:=by rw[HL.out];exact BN
   have i0:(j:Int)<(n:Int):=AD;obtain ⟨b,off,rfl,hb,c0,c1,c2,c3⟩:=Lq (HV.out.later AW) j lj;have HT:=AC (Ik lj);have IO:=J3 l[j] (getElem_mem lj);generalize l[j]=ot at *;obtain ⟨ca,cn,cr,cs⟩:=ot;simp only at c0 c1 c2 c3
   obtain ⟨-,-,hr,hs⟩:=IO;obtain ⟨y,hy⟩:=BZ (Kt cr cs x);have fS:=Mw cr cs x;rw[hy]at fS;obtain ⟨y0,y1⟩:=fS;have HW:=AC (fun w=>Ur ca cn cr cs x w y hy hr hs (by constructor <;> omega));have HE:Hid (Ij 0 (l.take (j+1))=x+y/\NI 0 (l.take (j+1))=NI 0 (l.take j)++[x+y]):=AC (by
    rw[HT.out];have e1:Ij 0 (l.take j++[(ca,cn,cr,cs)])=x+y:=by rw[NO,HXX.out];unfold Of;rw[hy]
    exact ⟨e1,by rw[My,e1]⟩)
   clear hy AW hr hs;go_wp2_with fail;refine (HW _).mono ?_;rintro e w3 ⟨rfl,b3⟩;have ho3:=HO.out;obtain ⟨u2,w4,k1,k2,k3⟩:=io (x+y) (ON.later b3 HO.out) (Nat.le_trans HA.out.below.size b3.below.size) (by rw[hlen];omega);have K1:=AC k1;have K2:Hid (ON .i64 3 w4 w.heap.size u2 (NI 0 (l.take (j+1)))):=AC (by rw[HE.out.2];exact k2);have K3:=AC (k3 w (le_refl _) (HA.out.trans b3));clear k1 k2 k3 ho3 b3;go_wp2_with (at_builtin;refine Lib.wpList_append_run _ rfl _ _ _ _ rfl _ _ rfl rfl _ _ K1.out ?_)
   go_roundg (n-(j+1))
   case measure=>omega
   case rel=>exact ⟨K3.out,j+1,rfl,AD,by go_num,by rw[HE.out.1],K2.out⟩
  ·obtain rfl:j=n:=AD
   have HE:Hid (l.take j=l):=AC (take_of_length_le (by rw[HL.out];exact le_refl _));clear AW;go_wp2_with fail;go_ret;exact ⟨_,rfl,HA.out,by have:=HO.out;rw[HE.out]at this;exact this⟩
def IC(l:Bc)(n j:Nat):List Int:=NI 0 (l.take j)++replicate (n-j) 0
theorem Fc{l:Bc}(hl:l.length=n)(hj:j<=n):(IC l n j).length=n+1:=by
 unfold IC;rw[length_append,C8,length_take,length_replicate];omega
theorem cB{l:Bc}(hl:l.length=n)(hj:j<=n):(IC l n j)[j]?=some (Ij 0 (l.take j)):=by
 have h:=iD (l.take j) 0;have BN:(l.take j).length=j:=by rw[length_take];omega
 rw[BN]at h;unfold IC;rw[List.getElem?_append_left (by rw[C8,BN];omega)];exact h
theorem fI{l:Bc}(hl:l.length=n)(hj:j<n):(IC l n j).set (j+1) (Ij 0 (l.take (j+1)))=IC l n (j+1):=by
 have BN:(l.take j).length=j:=by rw[length_take];omega
 unfold IC;rw[Ik (show j<l.length by omega),My,List.set_append_right _ _ (by rw[C8,BN];exact le_refl _),C8,BN,sub_self,show n-j=(n-(j+1))+1 by omega,replicate_succ,List.set_cons_zero,List.append_assoc];rfl
theorem bi{l:Bc}(hl:l.length=n):IC l n n=NI 0 l:=by
 unfold IC;rw[take_of_length_le AD,sub_self,List.replicate_zero,List.append_nil]
theorem xd(n:Nat)(hn:n<=4000)(w:World):(Instr.makeSlice 42 (.int .i64 ((n:Int)+1)) (.int .i64 ((n:Int)+1))).run prog w=.ok (.slice (some ⟨w.heap.size,0,none⟩) (n+1) (n+1)) (w.alloc (.cells (madeCells #[.int .i64 0] (n+1)) 3)):=by
 have h:=run_make_row' (P:=prog) 42 3 (.int .i64 0) 8 underlying42 FZ rfl .i64 .i64 (n+1) AD AD w;rwa [Int.natCast_add]at h
theorem je(l:Bc)(n:Nat)(w:World):ON .i64 3 (w.alloc (.cells (madeCells #[.int .i64 0] (n+1)) 3)) w.heap.size (.slice (some ⟨w.heap.size,0,none⟩) (n+1) (n+1)) (IC l n 0)\/4000<n:=by
 rcases Nat.lt_or_ge 4000 n with h|h
 ·exact .inr h
 ·left
  have e:IC l n 0=replicate (n+1) 0:=by unfold IC;rw[List.take_zero,Nat.sub_zero,replicate_succ];rfl
  rw[e];have:=ON.of (B:=w.heap.size) (l:=replicate (n+1) 0) (cap:=n+1) (cur:=madeCells #[.int .i64 0] (n+1)) (le_refl _) (Ae (w:=w) rfl) Ar (by unfold maxLen;omega) (size_madeCells _ _) (fun j hj=>by
   rw[<-Array.getElem?_toList,toList_madeCells_one];rw[length_replicate]at hj;simp[hj])
  simpa using this
theorem nk(v:Value)(l:Bc)(w:World)(hv:FR Gf w v l)(hN:Gc l)(hl:l.length<=4000):
 Calls prog 203 #[v] w fun e w'=>∃u,e=.returned u/\AA w w'/\ON .i64 3 w' w.heap.size u (NI 0 l):=by
 obtain ⟨A,cap,rfl,hc⟩:=hv.form;have HV:=AC hv;have J3:=AC hN;obtain ⟨n,hn⟩:=BZ (l.length);have HL:=AC hn;rw[hn]at HV hc hl ⊢;have HM:=xd n hl w;have nz:=AC ((je l n w).resolve_right AD);have LY:=AC ((AA.refl w).alloc (.cells (madeCells #[.int .i64 0] (n+1)) 3));obtain ⟨G,hg⟩:=BZ (w.heap.size);have HG:=AC hg;rw[hg]at HM nz ⊢;generalize w.alloc (.cells (madeCells #[.int .i64 0] (n+1)) 3)=w0 at *;clear hv hN hn hg;go_enter func203,ntmps203;go_wp2_with fail;go_loopg [12] n (fun kk iv wr=>AA w wr/\∃j:Nat,kk=n-j/\j<=n/\iv=.int .i64 j/\ON .i64 3 wr G (.slice (some ⟨G,0,none⟩) (n+1) (n+1)) (IC l n j))
 case atStart=>exact ⟨LY.out,0,AD,AD,rfl,nz.out⟩
 case round=>
  obtain ⟨AW,j,hk,hj,rfl,ho⟩:=hrel;have HA:=AC AW;have HO:=AC ho;by_cases BN:j<n
  ·have lj:j<l.length:=by rw[HL.out];exact BN
   have i0:(j:Int)<(n:Int):=AD;have hx:=O5 (l.take j) 0;have JQ:(l.take j).length=j:=by rw[length_take,HL.out];omega
   rw[JQ]at hx;obtain ⟨x,Wm⟩:=BZ (Ij 0 (l.take j));have HXX:=AC Wm;rw[Wm]at hx;obtain ⟨x0,x1⟩:=hx;obtain ⟨G',DZ,cur,e1,hB,hblk,q1,q2,q3,q4⟩:=ho.at (by rw[Fc HL hj];omega);rw[Fc HL hj]at e1 q1;cases e1;have d0:wr.cell? ⟨G,j,none⟩=some (.int .i64 x):=by
    rw[AE hblk,q4 j (by rw[Fc HL hj];omega)];have:=cB HL hj
    rw[List.getElem?_eq_getElem (by rw[Fc HL hj];omega),Wm]at this;rw[Option.some.inj this]
   have gl:G<wr.heap.size:=As hblk;obtain ⟨z,hz⟩:∃z,cur[j+1]?=some (.int .i64 z):=⟨_,q4 (j+1) (by rw[Fc HL hj];omega)⟩;have HZ:=AC hz;have pS:=AC hblk;obtain ⟨b,off,rfl,hb,c0,c1,c2,c3⟩:=Lq (HV.out.later AW) j lj;have HT:=AC (Ik lj);have IO:=J3 l[j] (getElem_mem lj);generalize l[j]=ot at *;obtain ⟨ca,cn,cr,cs⟩:=ot;simp only at c0 c1 c2 c3
   obtain ⟨-,-,hr,hs⟩:=IO;obtain ⟨y,hy⟩:=BZ (Kt cr cs x);have fS:=Mw cr cs x;rw[hy]at fS;obtain ⟨y0,y1⟩:=fS;have HW:=AC (fun w=>Qz ca cn cr cs x w y hy hr hs (by constructor <;> omega));have HE:Hid (Ij 0 (l.take (j+1))=x+y):=AC (by
    rw[HT.out,NO,HXX.out];unfold Of;rw[hy])
   have zL:=AC (fI HL BN);clear hy hr hs ho hblk q1 q2 q3 q4 Wm JQ hz;go_wp2_with fail;refine JL wr (wr.heap.size) (.cells #[.int .i64 ca,.int .i64 cn,.int .i32 cr,.int .i64 cs] 160) ?_;intro w1 AJ AH;have AG:=AW.trans AJ;have d1:w1.cell? ⟨G,j,none⟩=some (.int .i64 x):=(AJ.below.cell gl).trans d0;apply AP (15) [⟨12,29,.int .i64 y,false,fun v _=>v=.int .i64 y⟩] [] rfl AY AY AY Ar AY
   case hstab=>
    intro c hc;rcases Cv hc with rfl
    ·intro v x y BE hv;exact hv
   case hfix=>
    intro c hc;rcases Cv hc with rfl
    ·exact .inr fun u x h=>h
   case hlex=>
    intro U hU;have q0:=AE (AB hU AH);have sn:=Ak hU d1;refine Hj ?_
    repeat (go_big_quiet_step (first|fail))
    exact wpQuiet_nil rfl
   case hstep=>
    intro j hj o ho;have CQ:j=0:=by simp at hj;omega
    rcases CQ with rfl
    ·cases ho;refine ⟨rfl,fun g x hx hp=>?_⟩;clear hp;refine Bp ?_;refine AO ?_ (At (HW x));simp[go_sem,execOp]
   case htail=>
    intro g u Aw Az;have AL:AA w1 (later u):=⟨u,rfl⟩;generalize later u=w2 at *;clear u;clear Aw Az;refine DH ?_;have AR:=AG.trans AL;have uC:=AJ.trans AL;have Hr:=AB uC pS.out;have fz:=Bq Hr (j+1);have e1:w2.cell? ⟨G,j+1,none⟩=some (.int .i64 z):=by rw[AE Hr];exact HZ.out
    have Mf:=AC (AR.setCell (p:=⟨G,j+1,none⟩) (by rw[HG.out];exact le_refl _) (.int .i64 (x+y)));have N9:Hid (ON .i64 3 (w2.setCell ⟨G,j+1,none⟩ (.int .i64 (x+y))) G (.slice (some ⟨G,0,none⟩) (n+1) (n+1)) (IC l n (j+1))):=AC (by
     rw[<-zL.out,HE.out];exact (ON.later uC HO.out).set (x+y))
    go_wp2_with fail;go_roundg (n-(j+1))
    case measure=>omega
    case rel=>exact ⟨Mf.out,j+1,rfl,AD,by go_num,N9.out⟩
  ·obtain rfl:j=n:=AD
   have HE:Hid (ON .i64 3 wr G (.slice (some ⟨G,0,none⟩) (j+1) (j+1)) (NI 0 l)):=AC (by rw[<-bi HL.out];exact ho);clear AW ho;go_wp2_with fail;go_ret;exact ⟨_,rfl,HA.out,HE.out⟩
abbrev Rw:=Int × Int × Int
abbrev we:=List Rw
def dU:Ic Rw where
 fl c:=[.int .i64 c.1,.int .i64 c.2.1,.int .i64 c.2.2]
 k:=3
 pos:=by decide
 len _:=rfl
 one a u hu:=by
  simp only[mem_cons,List.not_mem_nil,or_false]at hu;rcases hu with rfl|rfl|rfl <;> rfl
theorem kh:Jy dU 184 181 (.agg #[.int .i64 0,.int .i64 0,.int .i64 0]) 24 where
 Yq:=underlying181
 el:=AY
 info:=AY
 size:=fun w=>by simp[go_sem,dU]
 zero:=rfl
 mA:=by decide
theorem rowAt{l:we}(h:FR dU w (.slice A n cap) l)(j:Nat)(hj:j<l.length):∃b off,A=some ⟨b,off,none⟩/\b<w.heap.size/\
 w.cell? ⟨b,off+j*3,none⟩=some (.int .i64 l[j].1)/\w.cell? ⟨b,off+j*3+1,none⟩=some (.int .i64 l[j].2.1)/\w.cell? ⟨b,off+j*3+2,none⟩=some (.int .i64 l[j].2.2):=by
 obtain ⟨b,off,e,hb,hc⟩:=h.at j hj;exact ⟨b,off,e,hb,hc 0 _ rfl,hc 1 _ rfl,hc 2 _ rfl⟩
theorem OF.under{α:Type}{F:Ic α}{t:TypeId}{l:List α}(o:OF F t w B v l){k:Nat}(h:w.heap.size<=k):v.ownBlock≠some k:=by
 rcases o.2 with ⟨rfl,_⟩|⟨g,cap,cur,rfl,_,h3,_⟩
 ·intro h;cases h
 ·intro e;obtain rfl:g=k:=by simpa[Value.ownBlock] using e
  have:=As h3
  omega
def GW(l:Bc)(f t:Nat):Int:=Ij 0 ((l.take t).drop f)
theorem SP(l:Bc)(f:Nat):GW l f f=0:=by
 unfold GW;rw[List.drop_of_length_le (by rw[length_take];omega)];rfl
theorem be{l:Bc}(hf:f<=t)(h:t<l.length):GW l f (t+1)=GW l f t+Of l[t] (GW l f t):=by
 unfold GW;rw[Ik h,List.drop_append_of_le_length (by rw[length_take];omega),NO]
theorem mz(l:Bc)(f t:Nat):0<=GW l f t/\GW l f t<=48*(t-f:Nat):=by
 have h:=O5 ((l.take t).drop f) 0;unfold GW;rw[List.length_drop,length_take]at h;omega
def blC(c:pC):Bool:=decide (c.2.2.1=9\/c.2.2.1=32)
def FX(l:Bc)(W:Int)(f:Nat):Nat->Nat->Nat
 |0,t=>t
 |g+1,t=>if t<l.length/\(t=f\/GW l f (t+1)<=W) then FX l W f g (t+1) else t
def th(l:Bc)(k:Nat):Bool:=(l[k]?).any blC
def Gn(l:Bc)(f:Nat):Nat->Nat
 |0=>f
 |k+1=>if k<f then f else if th l k then k+1 else Gn l f k
def Kc(l:Bc)(f t:Nat):Nat:=if Gn l f t=f then t else Gn l f t
def FB(l:Bc)(W:Int)(f:Nat):Nat:=
 if l.length<=FX l W f (l.length-f) f then l.length else Kc l f (FX l W f (l.length-f) f)
def Lk(l:Bc)(W:Int):Nat->Nat->we
 |0,_=>[]
 |g+1,f=>((f:Int),(FB l W f:Int),GW l f (FB l W f))::if l.length<=FB l W f then [] else Lk l W g (FB l W f)
def Hq(l:Bc)(W:Int):we:=Lk l (max W 1) (l.length+1) 0
theorem QI(l:Bc)(W:Int)(f:Nat):∀g t,t<=FX l W f g t/\(t<=l.length->FX l W f g t<=l.length)
 |0,t=>⟨le_refl _,fun h=>h⟩
 |g+1,t=>by
  unfold FX;split
  ·rename_i h
   have k:=QI l W f g (t+1);exact ⟨AD,fun _=>k.2 AD⟩
  ·exact ⟨le_refl _,fun h=>h⟩
theorem Uy{l:Bc}(h:f<l.length):f+1<=FX l W f (l.length-f) f:=by
 obtain ⟨g,hg⟩:∃g,l.length-f=g+1:=⟨l.length-f-1,AD⟩;rw[hg];unfold FX;rw[if_pos ⟨h,.inl rfl⟩];exact (QI l W f g (f+1)).1
theorem lU{l:Bc}(h:t<l.length)(hf:t=f\/GW l f (t+1)<=W):FX l W f (l.length-t) t=FX l W f (l.length-(t+1)) (t+1):=by
 rw[show l.length-t=(l.length-(t+1))+1 by omega]
 conv=>lhs;unfold FX
 rw[if_pos ⟨h,hf⟩]
theorem dI{l:Bc}(hf:t≠f)(h:W<GW l f (t+1)):FX l W f (l.length-t) t=t:=by
 cases l.length-t with
 |zero=>rfl
 |succ g=>
  unfold FX;rw[if_neg AD]
theorem NA(l:Bc)(f:Nat):∀t,f<=Gn l f t/\Gn l f t<=max f t
 |0=>⟨le_refl _,by unfold Gn;omega⟩
 |k+1=>by
  unfold Gn;have h:=NA l f k;split
  ·omega
  ·split
   ·omega
   ·omega
theorem Y2(l:Bc)(f:Nat):Gn l f f=f:=by have:=NA l f f;omega
theorem df{l:Bc}(h:f<=k)(hb:th l k=true):Gn l f (k+1)=k+1:=by
 unfold Gn;rw[if_neg AD,if_pos hb]
theorem fw{l:Bc}(h:f<=k)(hb:th l k=false):Gn l f (k+1)=Gn l f k:=by
 conv=>lhs;unfold Gn
 rw[if_neg AD,if_neg (by rw[hb];decide)]
theorem sJ{l:Bc}(h:k<l.length):th l k=blC l[k]:=by
 unfold th;rw[List.getElem?_eq_getElem h];rfl
theorem Si{l:Bc}(h:f<t):f<Kc l f t/\Kc l f t<=t:=by
 have:=NA l f t
 unfold Kc;split <;> omega
theorem ku{l:Bc}(h:f<=l.length):f<=FB l W f/\FB l W f<=l.length/\(f<l.length->f<FB l W f):=by
 have k:=QI l W f (l.length-f) f;unfold FB;split
 ·omega
 ·have q:f<l.length:=AD;have:=Uy (W:=W) q
  have:=Si (l:=l) (f:=f) (t:=FX l W f (l.length-f) f) AD
  omega
theorem eD{l:Bc}(h:FX l W f (l.length-f) f=l.length):FB l W f=l.length:=by
 unfold FB;rw[h,if_pos (le_refl _)]
theorem Xx{l:Bc}(h:FX l W f (l.length-f) f=t)(ht:t<l.length):FB l W f=Kc l f t:=by
 unfold FB;rw[h,if_neg AD]
theorem JU(l:Bc)(W:Int)(g f:Nat):Lk l W (g+1) f=((f:Int),(FB l W f:Int),GW l f (FB l W f))::if l.length<=FB l W f then [] else Lk l W g (FB l W f):=rfl
theorem Sv(l:Bc)(W:Int):∀g f,(Lk l W g f).length<=g
 |0,_=>le_refl _
 |g+1,f=>by
  rw[JU];split
  ·simp
  ·have:=Sv l W g (FB l W f)
   simp;omega
structure Ld where
 cs:Bc
 xs:List Int
 up:Int
 dn:Int
 fr:Int
 en:Int
 la:Bool
structure mI where
 a1:Option Addr
 n1:Nat
 c1:Nat
 a2:Option Addr
 n2:Nat
 c2:Nat
 up:Int
 dn:Int
 fr:Int
 en:Int
 la:Bool
def qS:Ic mI where
 fl x:=[.slice x.a1 x.n1 x.c1,.slice x.a2 x.n2 x.c2,.int .i64 x.up,.int .i64 x.dn,.int .i64 x.fr,.int .i64 x.en,.bool x.la]
 k:=7
 pos:=by decide
 len _:=rfl
 one a u hu:=by
  simp only[mem_cons,List.not_mem_nil,or_false]at hu;rcases hu with rfl|rfl|rfl|rfl|rfl|rfl|rfl <;> rfl
theorem zp:Jy qS 110 55 (.agg #[.slice none 0 0,.slice none 0 0,.int .i64 0,.int .i64 0,.int .i64 0,.int .i64 0,.bool false]) 88 where
 Yq:=underlying55
 el:=AY
 info:=AY
 size:=fun w=>by simp[go_sem,qS]
 zero:=rfl
 mA:=by decide
def gq(w:World)(x:mI)(r:Ld):Prop:=
 (FR Gf w (.slice x.a1 x.n1 x.c1) r.cs/\RI w (.slice x.a2 x.n2 x.c2) r.xs)/\x.up=r.up/\x.dn=r.dn/\x.fr=r.fr/\x.en=r.en/\x.la=r.la
theorem gq.later{x:mI}{r:Ld}(h:gq w x r)(a:AA w w'):gq w' x r:=
 ⟨⟨h.1.1.later a,h.1.2.later a⟩,h.2⟩
def LR(w:World)(v:Value)(L:List Ld):Prop:=∃lv:List mI,FR qS w v lv/\lv.length=L.length/\∀(j:Nat) (h:j<lv.length) (h':j<L.length),gq w lv[j] L[j]
theorem LR.later{L:List Ld}(h:LR w v L)(a:AA w w'):LR w' v L:=by
 obtain ⟨lv,h1,h2,h3⟩:=h;exact ⟨lv,h1.later a,h2,fun j h h'=>(h3 j h h').later a⟩
theorem LR.form{L:List Ld}(h:LR w v L):∃A cap,v=.slice A L.length cap/\L.length<=cap:=by
 obtain ⟨lv,h1,h2,_⟩:=h;obtain ⟨A,cap,e,hc⟩:=h1.form;exact ⟨A,cap,by rw[e,h2],AD⟩
theorem LR.void(w:World)(A:Option Addr)(cap:Nat):LR w (.slice A 0 cap) []:=⟨[],FR.void _ _ _,rfl,fun _ h=>absurd h Ar⟩
theorem r_{L:List Ld}(h:LR w (.slice A n cap) L)(j:Nat)(hj:j<L.length):∃b off a1 c1 a2 c2,A=some ⟨b,off,none⟩/\b<w.heap.size/\
 (FR Gf w (.slice a1 L[j].cs.length c1) L[j].cs/\RI w (.slice a2 L[j].xs.length c2) L[j].xs)/\
 w.cell? ⟨b,off+j*7,none⟩=some (.slice a1 L[j].cs.length c1)/\w.cell? ⟨b,off+j*7+1,none⟩=some (.slice a2 L[j].xs.length c2)/\
 w.cell? ⟨b,off+j*7+2,none⟩=some (.int .i64 L[j].up)/\w.cell? ⟨b,off+j*7+3,none⟩=some (.int .i64 L[j].dn)/\
 w.cell? ⟨b,off+j*7+4,none⟩=some (.int .i64 L[j].fr)/\w.cell? ⟨b,off+j*7+5,none⟩=some (.int .i64 L[j].en)/\
 w.cell? ⟨b,off+j*7+6,none⟩=some (.bool L[j].la):=by
 obtain ⟨lv,h1,h2,h3⟩:=h;have Gw:j<lv.length:=AD;obtain ⟨b,off,e,hb,hc⟩:=h1.at j Gw;obtain ⟨⟨k1,k2⟩,k3,k4,k5,k6,k7⟩:=h3 j Gw hj;have e1:=hc 0 _ rfl;have e2:=hc 1 _ rfl;have e3:=hc 2 _ rfl;have e4:=hc 3 _ rfl;have e5:=hc 4 _ rfl;have e6:=hc 5 _ rfl;have e7:=hc 6 _ rfl;obtain ⟨A1,C1,q1,-⟩:=k1.form;obtain ⟨A2,C2,q2,-⟩:=k2.form;rw[q1]at k1 e1;rw[q2]at k2 e2;rw[k3]at e3;rw[k4]at e4;rw[k5]at e5;rw[k6]at e6;rw[k7]at e7;exact ⟨b,off,A1,C1,A2,C2,e,hb,⟨k1,k2⟩,e1,e2,e3,e4,e5,e6,e7⟩
theorem Zu{l:List Int}(h:RI w (.slice A n cap) l)(j:Nat)(hj:j<l.length):∃b off,A=some ⟨b,off,none⟩/\b<w.heap.size/\w.cell? ⟨b,off+j,none⟩=some (.int .i64 l[j]):=by
 obtain ⟨A',DZ,e,h2,h3⟩:=h;cases e;obtain ⟨b,off,e,hb,hc⟩:=h3 AD;exact ⟨b,off,e,hb,hc j hj⟩
def um(r:Ld):Prop:=(BO r.up/\BO r.dn/\BO r.fr/\BO r.en)/\Gc r.cs/\∀x∈r.xs,BO x
def j0(L:List Ld):Prop:=∀r∈L,um r
def nG(u d:Int):Int:=if u<0\/d<0\/1048576<u\/1048576<d then 0 else u+d
def Tv(r:Ld):Int:=nG r.up r.dn
theorem jq(r:Ld):0<=Tv r/\Tv r<=2097152:=by
 unfold Tv nG;split <;> omega
def GT(L:List Ld):Int:=L.foldl (fun s r=>s+Tv r) 0
theorem dA(L:List Ld)(r:Ld):GT (L++[r])=GT L+Tv r:=by unfold GT;rw[foldl_append];rfl
theorem fF{L:List Ld}(h:j<L.length):GT (L.take (j+1))=GT (L.take j)+Tv L[j]:=by
 rw[List.take_succ_eq_append_getElem h,dA]
theorem nJ(L:List Ld):0<=GT L/\GT L<=2097152*L.length:=by
 have:∀(L:List Ld) (s:Int),s<=L.foldl (fun s r=>s+Tv r) s/\L.foldl (fun s r=>s+Tv r) s<=s+2097152*L.length:=by
  intro L
  induction L with
  |nil=>intro s;simp
  |cons r L ih=>
   intro s;have h:=ih (s+Tv r);have h2:=jq r;rw[foldl_cons,length_cons];omega
 have h:=this L 0;unfold GT;omega
def ij(f:Int):Int:=if f=2 then 14 else 7
def lO(f:Int):Int:=if f=2 then 3 else 2
def UR(l:Bc):Int:=l.foldl (fun u c=>max u (ij (C0 c.2.2.2))) 7
def UU(l:Bc):Int:=l.foldl (fun u c=>max u (lO (C0 c.2.2.2))) 2
theorem j8(l:Bc)(c:pC):UR (l++[c])=max (UR l) (ij (C0 c.2.2.2)):=by unfold UR;rw[foldl_append];rfl
theorem jA(l:Bc)(c:pC):UU (l++[c])=max (UU l) (lO (C0 c.2.2.2)):=by unfold UU;rw[foldl_append];rfl
theorem T0(l:Bc):7<=UR l/\UR l<=14:=by
 have:∀(l:Bc) (u:Int),u<=14->u<=l.foldl (fun u c=>max u (ij (C0 c.2.2.2))) u/\l.foldl (fun u c=>max u (ij (C0 c.2.2.2))) u<=14:=by
  intro l
  induction l with
  |nil=>intro u h;simp[h]
  |cons c l ih=>
   intro u h;have h2:ij (C0 c.2.2.2)<=14:=by unfold ij;split <;> omega
   have h3:=ih (max u (ij (C0 c.2.2.2))) AD;rw[foldl_cons];omega
 exact this l 7 (by decide)
theorem T7(l:Bc):2<=UU l/\UU l<=3:=by
 have:∀(l:Bc) (u:Int),u<=3->u<=l.foldl (fun u c=>max u (lO (C0 c.2.2.2))) u/\l.foldl (fun u c=>max u (lO (C0 c.2.2.2))) u<=3:=by
  intro l
  induction l with
  |nil=>intro u h;simp[h]
  |cons c l ih=>
   intro u h;have h2:lO (C0 c.2.2.2)<=3:=by unfold lO;split <;> omega
   have h3:=ih (max u (lO (C0 c.2.2.2))) AD;rw[foldl_cons];omega
 exact this l 2 (by decide)
def rO(l:Bc):Int:=(l.head?.map (·.1)).getD 0
def sX(l:Bc):Int:=(l.getLast?.map fun c=>c.1+c.2.1).getD 0
def UB(l:Bc)(la:Bool):Ld:={cs:=l,xs:=NI 0 l,up:=UR l,dn:=UU l,fr:=rO l,en:=sX l,la:=la}
def Ex(C:Bc)(r:Rw):Bc:=(C.take r.2.1.toNat).drop r.1.toNat
def FV(C:Bc)(W:Int):List Ld:=(List.range (Hq C W).length).map fun j=>UB (Ex C ((Hq C W).getD j (0,0,0))) (decide (j+1=(Hq C W).length))
theorem RK(C:Bc)(W:Int):(FV C W).length=(Hq C W).length:=by simp[FV]
def Ju(w:World)(B:Nat)(x:mI)(r:Ld):Prop:=
 (OF Gf 160 w B (.slice x.a1 x.n1 x.c1) r.cs/\ON .i64 3 w B (.slice x.a2 x.n2 x.c2) r.xs)/\x.up=r.up/\x.dn=r.dn/\x.fr=r.fr/\x.en=r.en/\x.la=r.la
theorem Ju.Q15{x:mI}{r:Ld}(h:Ju w B x r):gq w x r:=⟨⟨h.1.1.fr,h.1.2.rn⟩,h.2⟩
theorem Ju.later{x:mI}{r:Ld}(h:Ju w B x r)(a:AA w w'):Ju w' B x r:=⟨⟨h.1.1.later a,ON.later a h.1.2⟩,h.2⟩
def RP(w:World)(B:Nat)(v:Value)(L:List Ld):Prop:=∃lv,OF qS 110 w B v lv/\lv.length=L.length/\∀(j:Nat) (h:j<lv.length) (h':j<L.length),Ju w B lv[j] L[j]
theorem RP.lr{L:List Ld}(h:RP w B v L):LR w v L:=by
 obtain ⟨lv,h1,h2,h3⟩:=h;exact ⟨lv,h1.fr,h2,fun j k k'=>(h3 j k k').Q15⟩
theorem RP.later{L:List Ld}(h:RP w B v L)(a:AA w w'):RP w' B v L:=by
 obtain ⟨lv,h1,h2,h3⟩:=h;exact ⟨lv,h1.later a,h2,fun j k k'=>(h3 j k k').later a⟩
theorem OV(f:Int)(w:World)(u d:Int)(hu:ij f=u)(hd:lO f=d)(hf:0<=f/\f<=2):Calls prog 245 #[.int .i64 f] w fun e w'=>e=.returned (.tuple #[.int .i64 u,.int .i64 d,.bool true])/\w=w':=by
 have qG:f=0\/f=1\/f=2:=AD;clear hf;rcases qG with rfl|rfl|rfl
 all_goals
  have H:Hid (_/\_):=AC (And.intro hu hd);clear hu hd;go_enter func245,ntmps245;go_wp2_with fail;refine bodyPost_ret (v:=.tuple #[.int .i64 u,.int .i64 d,.bool true]) (by rw[<-H.out.1,<-H.out.2];simp[results,results245,go_sem,ij,lO]) rfl ⟨rfl,rfl⟩
theorem Yu(v:Value)(l:Bc)(w:World)(u d:Int)(hu:UR l=u)(hd:UU l=d)(hv:FR Gf w v l)(hN:Gc l)(hl:l.length<=4000):Calls prog 204 #[v] w fun e w'=>e=.returned (.tuple #[.int .i64 u,.int .i64 d])/\AA w w':=by
 obtain ⟨A,cap,rfl,hc⟩:=hv.form;have HV:=AC hv;have J3:=AC hN;have HS:=AC (And.intro hu hd);have hmx:∀(w:World) (ts:Array TypeId) (t:TypeId) (p q:Int),(Builtin.max_ ts t #[.int .i64 p,.int .i64 q]).run prog w=.ok (.int .i64 (max p q)) w:=fun w ts t p q=>by
  rw[run_max_int2];split
  ·rw[Int.max_eq_right AD]
  ·rw[Int.max_eq_left AD]
 obtain ⟨n,hn⟩:=BZ (l.length);have HL:=AC hn;have sE:=AC (fun w=>OV 0 w 7 2 rfl rfl (by decide));rw[hn]at HV hc hl ⊢;clear hv hN hn hu hd;go_enter func204,ntmps204;go_wp2_with fail;refine (sE _).mono ?_;rintro e w1 ⟨rfl,rfl⟩;go_wp2_with fail;go_loopg [2,3,16] n (fun kk uv dv iv wr=>AA w wr/\∃j:Nat,kk=n-j/\j<=n/\iv=.int .i64 j/\uv=.int .i64 (UR (l.take j))/\dv=.int .i64 (UU (l.take j)))
 case atStart=>exact ⟨AA.refl w,0,AD,AD,rfl,rfl,rfl⟩
 case round=>
  obtain ⟨AW,j,hk,hj,rfl,rfl,rfl⟩:=hrel;have HA:=AC AW;have hu:=T0 (l.take j);have hd:=T7 (l.take j);by_cases BN:j<n
  ·have lj:j<l.length:=by rw[HL.out];exact BN
   have i0:(j:Int)<(n:Int):=AD;have HT:Hid (UR (l.take (j+1))=max (UR (l.take j)) (ij (C0 l[j].2.2.2))/\UU (l.take (j+1))=max (UU (l.take j)) (lO (C0 l[j].2.2.2))):=AC (by
    rw[Ik lj,j8,jA];exact ⟨rfl,rfl⟩)
   obtain ⟨U,hU⟩:=BZ (UR (l.take j));obtain ⟨D,hD⟩:=BZ (UU (l.take j));rw[hU]at hu HT ⊢;rw[hD]at hd HT ⊢;obtain ⟨b,off,rfl,hb,c0,c1,c2,c3⟩:=Lq (HV.out.later AW) j lj;have IO:=J3 l[j] (getElem_mem lj);generalize l[j]=ot at *;obtain ⟨ca,cn,cr,cs⟩:=ot;simp only at c0 c1 c2 c3 HT
   obtain ⟨-,-,hr,hs⟩:=IO;have tV:=M9 cs;obtain ⟨f,hf⟩:=BZ (C0 cs);have HF:=AC (fun w=>SX cs w f hf hs);rw[hf]at tV HT;obtain ⟨y1,uc⟩:∃y,ij f=y:=⟨_,rfl⟩;obtain ⟨y2,uI⟩:∃y,lO f=y:=⟨_,rfl⟩;have HM:=AC (fun w=>OV f w y1 y2 uc uI tV);rw[uc,uI]at HT;clear hU hD hf uc uI hs hr tV;go_wp2_with fail;refine AQ (fun wS=>AA wr wS/\wS.heap[wr.heap.size]?=some (.cells #[.int .i64 ca,.int .i64 cn,.int .i32 cr,.int .i64 cs] 160)) ⟨BQ,CG⟩ ?_;rintro w1 ⟨AJ,AH⟩;have HB:=AC (HA.out.trans AJ);refine (HF _).mono ?_;rintro e w2 ⟨rfl,rfl⟩;go_wp2_with fail;refine (HM _).mono ?_;rintro e w2 ⟨rfl,rfl⟩;go_wp2_with fail;go_roundg (n-(j+1))
   case measure=>omega
   case rel=>exact ⟨HB.out,j+1,rfl,AD,by go_num,by rw[HT.out.1],by rw[HT.out.2]⟩
  ·obtain rfl:j=n:=AD
   have HE:Hid (UR (l.take j)=u/\UU (l.take j)=d):=AC (by rw[<-HS.out.1,<-HS.out.2,take_of_length_le (by rw[HL.out];exact le_refl _)];exact ⟨rfl,rfl⟩);rw[HE.out.1,HE.out.2];clear AW hu hd;go_wp2_with fail;refine bodyPost_ret (v:=.tuple #[.int .i64 u,.int .i64 d]) (by simp[results,results204,go_sem]) rfl ⟨rfl,HA.out⟩
theorem Yg(v:Value)(l:Bc)(w:World)(hv:FR Gf w v l)(hl:l.length<=190000):Calls prog 162 #[v] w fun e w'=>∃u,e=.returned u/\AA w w'/\OF Gf 160 w' w.heap.size u l:=by
 obtain ⟨A,cap,rfl,hc⟩:=hv.form;have hq:=fun (w:World) (n:Nat)=>Lib.run_eql_slice_nil (P:=prog) w 108 160 A n cap 0 0 underlying108
 obtain ⟨u,w2,k1,k2,k3⟩:=uo aS hv hl;have K1:=AC k1;have KK:=AC (And.intro k2 k3)
 cases A with
 |none=>
  have hl0:l=[]:=by
   obtain ⟨A',c',e,h2,h3⟩:=hv;cases e
   cases l with
   |nil=>rfl
   |cons x t=>obtain ⟨b,off,e,_⟩:=h3 Ar;cases e
  subst hl0;clear k1 k2 k3 hv KK K1;have HE:Hid (OF Gf 160 w w.heap.size (.slice none 0 0) []):=AC (OF.nil _ _ _);go_enter func162,ntmps162;go_wp2_with fail;go_ret;exact ⟨_,rfl,AA.refl _,HE.out⟩
 |some a=>
  clear k1 k2 k3 hv;generalize l.length=n at *;go_enter func162,ntmps162;go_wp2_with (at_builtin;refine Lib.wpList_append_run _ rfl _ _ _ _ rfl _ _ rfl rfl _ _ K1.out ?_)
  go_ret;exact ⟨_,rfl,KK.out.1,KK.out.2⟩
def L1(l:Bc):Prop:=∀c∈l,(0<=c.1/\c.1<=100000)/\0<=c.2.1/\c.2.1<=100000
theorem iE{l:Bc}(h:0<l.length):rO l=l[0].1:=by
 unfold rO
 cases l with
 |nil=>simp at h
 |cons c l=>rfl
theorem lp{l:Bc}(h:l.length=k+1):sX l=(l[k]'AD).1+(l[k]'AD).2.1:=by
 unfold sX;have e:l.getLast? =some l[k]:=by rw[List.getLast?_eq_getElem?,show l.length-1=k by omega,List.getElem?_eq_getElem]
 rw[e];rfl
theorem gX(A:Option Addr)(cap n:Nat)(l:Bc)(w:World)(hn:l.length=n)(hv:FR Gf w (.slice A n cap) l)(hN:Gc l)(hS:L1 l)(hl:n<=4000):
 Calls prog 161 #[.slice A n cap] w fun e w'=>∃A2 c2,e=.returned (.agg #[.slice A n cap,.slice A2 (n+1) c2,.int .i64 (UR l),.int .i64 (UU l),.int .i64 (rO l),.int .i64 (sX l),.bool false])/\AA w w'/\ON .i64 3 w' w.heap.size (.slice A2 (n+1) c2) (NI 0 l):=by
 have HV:=AC hv;have HL:=AC hn;have HSM:=AC hS;have HXS:=AC (fun w2 (a:AA w w2)=>nk (.slice A n cap) l w2 (hv.later a) hN AD);have HXL:=AC (show (NI 0 l).length=n+1 by rw[C8,hn]);have uA:=AC (fun w2 (a:AA w w2)=>Yu (.slice A n cap) l w2 _ _ rfl rfl (hv.later a) hN AD);have hu:=T0 l;have hd:=T7 l;obtain ⟨U,hU⟩:=BZ (UR l);obtain ⟨D,hD⟩:=BZ (UU l);rw[hU,hD]at uA;rw[hU]at hu ⊢;rw[hD]at hd ⊢;obtain ⟨X,hX⟩:=BZ (rO l);obtain ⟨Y,hY⟩:=BZ (sX l);have HX:=AC hX;have HY:=AC hY;rw[hX,hY];clear hv hn hS hN hU hD hX hY;go_enter func161,ntmps161
 go_upto_region 1 with fail
 refine JL w (w.heap.size) (.cells #[.slice none 0 0,.slice none 0 0,.int .i64 0,.int .i64 0,.int .i64 0,.int .i64 0,.bool false] 110) ?_;intro w1 AJ AH;go_wp2_with fail;refine (HXS _ AJ).mono ?_;rintro e w2 ⟨u2,rfl,AL,o2⟩;have AU:=AB AL AH;have GV:=As AU;have AR:=AJ.trans AL;obtain ⟨A2,c2,rfl,-⟩:=o2.form;rw[HXL.out]at o2 ⊢;have N9:=AC (ON.wide (C:=w.heap.size) AJ.below.size o2);clear o2 AL
 go_upto_region 2 with fail
 refine JL w2 (w2.heap.size) (.cells #[.slice A n cap,.slice A2 (n+1) c2,.int .i64 0,.int .i64 0,.int .i64 0,.int .i64 0,.bool false] 110) ?_;intro w3 AX BD;have An:=AR.trans AX;obtain ⟨Dm,FE,JI⟩:=GH BD;have gj:=AX.below.size;obtain ⟨p,hp⟩:=BZ (w2.heap.size);have HP:=AC hp;rw[hp]at BD Dm FE JI gj ⊢;go_wp2_with fail;refine (uA _ An).mono ?_;rintro e w4 ⟨rfl,Ao⟩;have CE:=AB Ao BD;obtain ⟨Is,Me⟩:=DX CE;(try clear Dm FE);have b24:=AX.trans Ao
 go_upto_region 3 with fail
 first|refine BW (fun wS=>AA w2 wS/\wS.heap[p]?=some (.cells #[.slice A n cap,.slice A2 (n+1) c2,.int .i64 U,.int .i64 D,.int .i64 0,.int .i64 0,.bool false] 110)) ⟨BQ,CG⟩ ?_|refine AQ (fun wS=>AA w2 wS/\wS.heap[p]?=some (.cells #[.slice A n cap,.slice A2 (n+1) c2,.int .i64 U,.int .i64 D,.int .i64 0,.int .i64 0,.bool false] 110)) ⟨BQ,CG⟩ ?_
 rintro w5 ⟨Bd,J2⟩;have DW:=AR.trans Bd;have DD:=AB Bd AU;obtain ⟨ND,Rk⟩:=DX DD;obtain ⟨k_,K17⟩:=Rn J2;have oR:=AC (ON.later Bd N9.out);have Ox:Hid (w2.heap.size<=p):=AC (by rw[HP.out];exact le_refl _);have mJ:w.heap.size<p:=by have:=Ox.out;omega
 clear b24 Ao AX hp
 cases n with
 |zero=>
  obtain rfl:X=0:=by rw[<-HX.out,List.eq_nil_of_length_eq_zero HL.out];rfl
  obtain rfl:Y=0:=by rw[<-HY.out,List.eq_nil_of_length_eq_zero HL.out];rfl
  have oE:=Ev (by decide) [.slice A 0 cap,.slice A2 (0+1) c2,.int .i64 U,.int .i64 D,.int .i64 0,.int .i64 0,.bool false] 0 w5 _ DD oR.out;have aE:=Gy (le_refl w.heap.size) [.slice A 0 cap,.slice A2 (0+1) c2,.int .i64 U,.int .i64 D,.int .i64 0,.int .i64 0,.bool false] 0 w5 DW;have HE:=AC (And.intro oE aE);clear oE aE;go_wp2_with fail;refine bodyPost_ret (v:=.agg #[.slice A 0 cap,.slice A2 (0+1) c2,.int .i64 U,.int .i64 D,.int .i64 0,.int .i64 0,.bool false]) (by simp[results,results161,go_sem,ND]) rfl ⟨_,_,rfl,HE.out.2,HE.out.1⟩
 |succ k=>
  have lk:k<l.length:=by rw[HL.out];omega
  have l0:0<l.length:=AD;obtain ⟨b,off,rfl,hb,-⟩:=Lq HV k lk;obtain ⟨b',Yj,eb,-,c0,c1,ti,c3⟩:=Lq (HV.out.later DW) k lk;cases eb;obtain ⟨b',Yj,eb,-,d0,-,-,-⟩:=Lq (HV.out.later DW) 0 l0;cases eb;rw[zero_mul,add_zero]at d0;have qP:=AC (iE l0);have HY2:=AC (lp HL.out);obtain ⟨⟨p1,p2⟩,p3,p4⟩:=HSM l[k] (getElem_mem lk);have hX3:l[0].1=X:=by rw[<-HX.out,qP.out]
  have zE:l[k].1+l[k].2.1=Y:=by rw[<-HY.out,HY2.out]
  rw[hX3]at d0;obtain ⟨ot,cw⟩:=BZ (l[k]);rw[cw]at c0 c1 ti c3 p1 p2 p3 p4 zE;obtain ⟨ca,cn,cr,cs⟩:=ot;simp only at c0 c1 ti c3 p1 p2 p3 p4 zE
  have e0:(k:Int)+1-1=(k:Int):=AD;have HY3:=AC zE;have HD0:=AC d0;have hbp:b<w5.heap.size:=by have:=DW.below.size;omega
  have n1:b≠p:=AD;clear hX3 cw qP HY2 zE d0
  go_upto_region 5 with fail
  refine JL w5 (w5.heap.size) (.cells #[.int .i64 ca,.int .i64 cn,.int .i32 cr,.int .i64 cs] 160) ?_;intro w6 Ec PC;have R8:=AB Ec J2;obtain ⟨kM,Y16⟩:=DX R8;(try clear ND Rk);(try clear k_);obtain ⟨qT,pZ,xA⟩:=GH PC;have Z10:=Ec.below.size;have d0:=(Ec.below.cell hbp).trans HD0.out;have b26:=Bd.trans Ec;have n2:w5.heap.size≠p:=AD;obtain ⟨q,hq⟩:=BZ (w5.heap.size);rw[hq]at PC qT pZ xA Z10 n2 ⊢;clear hq hbp c0 c1 ti c3
  go_region
  go_upto_region 6 with fail
  rw[HY3.out];have mC:=Ox.out;refine JL w2 (p) (.cells #[.slice (some ⟨b,off,none⟩) (k+1) cap,.slice A2 (k+1+1) c2,.int .i64 U,.int .i64 D,.int .i64 X,.int .i64 Y,.bool false] 110) ?_;intro w7 Fp kg;have RO:=AR.trans Fp;have Lg:=AB Fp AU;obtain ⟨jz,pR⟩:=DX Lg;have vP:=AE kg;have oE:=Ev (by decide) [.slice (some ⟨b,off,none⟩) (k+1) cap,.slice A2 (k+1+1) c2,.int .i64 U,.int .i64 D,.int .i64 X,.int .i64 Y,.bool false] 0 w7 _ Lg (ON.later Fp N9.out);have aE:=Gy (le_refl w.heap.size) [.slice (some ⟨b,off,none⟩) (k+1) cap,.slice A2 (k+1+1) c2,.int .i64 U,.int .i64 D,.int .i64 X,.int .i64 Y,.bool false] 0 w7 RO;have HE:=AC (And.intro oE aE);clear oE aE d0 b26 n1 n2;go_wp2_with fail;refine bodyPost_ret (v:=.agg #[.slice (some ⟨b,off,none⟩) (k+1) cap,.slice A2 (k+1+1) c2,.int .i64 U,.int .i64 D,.int .i64 X,.int .i64 Y,.bool false]) (by simp[results,results161,go_sem,jz]) rfl ⟨_,_,rfl,HE.out.2,HE.out.1⟩
theorem iK{P:Program}(w:World)(ts:Array TypeId)(t:TypeId)(p q:Int):(Builtin.max_ ts t #[.int .i64 p,.int .i64 q]).run P w=.ok (.int .i64 (max p q)) w:=by
 rw[run_max_int2];split
 ·rw[Int.max_eq_right AD]
 ·rw[Int.max_eq_left AD]
theorem bu(v:Value)(l:Bc)(x:Int)(w:World)(hv:FR Gf w v l)(hN:Gc l)(hl:l.length<=4000)(hx:BO x):
 Calls prog 160 #[v,.int .i64 x] w fun e w'=>∃u,e=.returned u/\AA w w'/\OF dU 184 w' w.heap.size u (Hq l x):=by
 obtain ⟨A,cap,rfl,hc⟩:=hv.form;have HV:=AC hv;have J3:=AC hN;have hmx:∀(w:World) (ts:Array TypeId) (t:TypeId),(Builtin.max_ ts t #[.int .i64 x,.int .i64 1]).run prog w=.ok (.int .i64 (max x 1)) w:=fun w ts t=>iK w ts t x 1
 obtain ⟨m,hm⟩:=BZ (max x 1);obtain ⟨vE,Ca⟩:=BZ (Hq l x);have kZ:Hid (Lk l m (l.length+1) 0=vE):=AC (by rw[<-Ca,<-hm];rfl);rw[hm]at hmx;rw[Ca];obtain ⟨n,hn⟩:=BZ (l.length);have HL:=AC hn;rw[hn]at HV kZ hc hl ⊢;clear hv hN hn hm Ca hx;go_enter func160,ntmps160;go_wp2_with fail
 go_step3
 go_wp2_with fail
 go_step3
 go_wp2_with fail;go_loopg [5,6] (n+1) (fun kk sv fv wr=>AA w wr/\∃(f:Nat) (D:we),fv=.int .i64 f/\f<=n/\n+1<=kk+f/\D.length+kk<=n+1/\OF dU 184 wr w.heap.size sv D/\D++Lk l m kk f=vE)
 case atStart=>exact ⟨AA.refl _,0,[],rfl,AD,AD,Ar,OF.nil _ _ _,kZ.out⟩
 case round=>
  obtain ⟨AW,f,D,rfl,hf,hk,hD,ho,Ca⟩:=hrel;have HA:=AC AW;have HO:=AC ho;obtain ⟨gg,rfl⟩:∃gg,gk=gg+1:=⟨gk-1,AD⟩;rw[JU]at Ca;have pM:=AC Ca;obtain ⟨A3,c3,rfl,h3⟩:=ho.form;obtain ⟨T,hT⟩:=BZ (FX l m f (n-f) f);have HT:=AC hT;clear ho Ca hT;generalize wr=wo at *;clear AW;go_wp2_with fail;refine BW (fun wS=>AA wo wS/\wS.heap[wo.heap.size]?=some (.cells #[.int .i64 f,.int .i64 f,.int .i64 0] 184)/\wS.heap[wo.heap.size+1]?=some (.cells #[.int .i64 f,.int .i64 f,.int .i64 0] 184)) ⟨BQ,CG,CG⟩ ?_;rintro w1 ⟨AJ,AH,Aq⟩;obtain ⟨B7,Eg,J5⟩:=GH AH;obtain ⟨Gm,Wz,Qk⟩:=GH Aq;have j5:=AJ.below.size;obtain ⟨p,hp⟩:=BZ (wo.heap.size);rw[hp]at AH Aq B7 Gm Eg Wz J5 Qk j5 ⊢;have hpz:wo.heap.size<=p:=AD;clear hp;go_loopg [5,6,9] (n-f) (fun kk sv fv iv ws=>AA wo ws/\sv=.slice A3 D.length c3/\fv=.int .i64 f/\∃(i k:Nat),kk=n-i/\f<=i/\i<=n/\iv=.int .i64 i/\Gn l f i=k/\FX l m f (n-i) i=T/\ws.heap[p]?=some (.cells #[.int .i64 f,.int .i64 i,.int .i64 (GW l f i)] 184)/\ws.heap[p+1]?=some (.cells #[.int .i64 f,.int .i64 k,.int .i64 (GW l f k)] 184))
  case atStart=>exact ⟨AJ,rfl,rfl,f,f,rfl,le_refl _,hf,rfl,Y2 _ _,HT.out,by rw[SP];exact AH,by rw[SP];exact Aq⟩
  case round=>
   obtain ⟨AW,rfl,rfl,i,k,hki,hfi,hin,rfl,iS,pi,CR,Fs⟩:=hrel;have Dy:=AE CR;have J6:=AE Fs;have HLS:=AC iS;have RA:=AC pi;have sA:=NA l f i;rw[iS]at sA;have hEb:=mz l f i;obtain ⟨E,hE⟩:=BZ (GW l f i);obtain ⟨Ek,hEk⟩:=BZ (GW l f k);have HE:=AC hE;have HEK:=AC hEk;rw[hE]at hEb CR Dy;rw[hEk]at Fs J6;obtain ⟨E0,E1⟩:=hEb;clear iS pi hE hEk;by_cases BN:i<n
   ·have lj:i<l.length:=by rw[HL.out];exact BN
    have i0:(i:Int)<(n:Int):=AD;have hS:=be hfi lj;have hB:=sJ lj;obtain ⟨b,off,rfl,hb,c0,c1,c2,c3⟩:=Lq (HV.out.later (HA.out.trans AW)) i lj;have IO:=J3 l[i] (getElem_mem lj);obtain ⟨ot,cw⟩:=BZ (l[i]);have zc:=AC cw;rw[cw]at c0 c1 c2 c3 IO hS hB;have HS:=AC hS;have HB:=AC hB;clear hS hB;clear cw;obtain ⟨ca,cn,cr,cs⟩:=ot;simp only at c0 c1 c2 c3
    obtain ⟨-,-,hr,hs⟩:=IO;obtain ⟨y,hy⟩:=BZ (Kt cr cs E);have fS:=Mw cr cs E;rw[hy]at fS;obtain ⟨y0,y1⟩:=fS;have HW:=AC (fun w=>Qz ca cn cr cs E w y hy hr hs (by constructor <;> omega));have d8:Hid (GW l f (i+1)=E+y):=AC (by rw[HS.out,HE.out,<-hy];rfl);clear hy hr hs HS;go_wp2_with fail;apply AP (11) [⟨8,32,.int .i64 y,false,fun v _=>v=.int .i64 y⟩] [] rfl AY AY AY Ar AY
    case hstab=>
     intro c hc;rcases Cv hc with rfl
     ·intro v x y BE hv;exact hv
    case hfix=>
     intro c hc;rcases Cv hc with rfl
     ·exact .inr fun u x h=>h
    case hlex=>
     intro U hU;have q0:=AE (AB hU CR);have UY:=Ak hU c0;have WC:=Ak hU c1;have K19:=Ak hU c2;have Y19:=Ak hU c3;refine Hj ?_
     repeat (go_big_quiet_step (first|fail))
     exact wpQuiet_nil rfl
    case hstep=>
     intro j hj o ho;have CQ:j=0:=by simp at hj;omega
     rcases CQ with rfl
     ·cases ho;refine ⟨rfl,fun g x hx hp=>?_⟩;clear hp;refine Bp ?_;refine AO ?_ (At (HW x));simp[go_sem,execOp]
    case htail=>
     intro g u Aw Az;have AL:AA wr (later u):=⟨u,rfl⟩;generalize later u=w2 at *;clear u;clear Aw Az;refine DH ?_;have AR:=AW.trans AL;have AU:=AB AL CR;have BH:=AB AL Fs;obtain ⟨BS,Dj⟩:=DX AU;obtain ⟨Gl,OO⟩:=DX BH;(try clear Dy);(try clear J6);have ie:=Ak AL c0;have U3:=Ak AL c1;have Y17:=Ak AL c2;have Z16:=Ak AL c3;have Q18:=AR;clear c0 c1 c2 c3;by_cases iP:m<E+y/\f<i
     ·obtain ⟨hm,Y10⟩:=iP;have d1:decide (m<E+y)=true:=decide_eq_true hm;have d2:decide ((f:Int)<(i:Int))=true:=decide_eq_true AD;have HTi:Hid (T=i):=AC (by rw[<-RA.out,<-HL.out];exact dI AD (by rw[d8.out];exact hm));have qq:Hid (FB l m f=Kc l f i):=AC (Xx (by rw[HL.out,HT.out,HTi.out]) (by rw[HL.out];exact BN));have od:Hid (∃K:Nat,Kc l f i=K/\(k=f/\K=i\/k≠f/\K=k)):=AC ⟨_,rfl,by
       unfold Kc;rw[HLS.out];by_cases q:k=f
       ·rw[if_pos q];exact .inl ⟨q,rfl⟩
       ·rw[if_neg q];exact .inr ⟨q,rfl⟩⟩
      obtain ⟨K,hK,hKK⟩:=od.out;have t8:Hid (FB l m f=K/\f<K/\K<n):=AC ⟨by rw[qq.out,hK],by have:=Si (l:=l) Y10;omega⟩;have kj:Hid (D++[((f:Int),(K:Int),GW l f K)]++Lk l m gg K=vE):=AC (by
       have h:=pM.out;rw[t8.out.1,HL.out,if_neg (by have:=t8.out.2.2;omega)]at h;rw[<-h,List.append_assoc];rfl)
      clear od hK;obtain ⟨EK,hEK⟩:=BZ (GW l f K);have vB:=AC hEK;rw[hEK]at kj;clear hEK;rcases hKK with ⟨q,tL⟩|⟨q,tL⟩
      ·have d3:((k:Int) == (f:Int))=true:=by simp[q]
       have tS:Hid (E=EK):=AC (by rw[<-vB.out,tL,HE.out]);have z7:Hid (K=i):=AC tL;clear q tL
       go_upto_region 13 with fail
       refine JL wo (p+1) (.cells #[.int .i64 f,.int .i64 i,.int .i64 E] 184) ?_;intro w3 AX Ah;have CB:=AE Ah;rw[tS.out,<-z7.out]at Ah CB;obtain ⟨u2,w4,k1,k2,k3,k4⟩:=Z9 kh ((f:Int),(K:Int),EK) (cs:= #[.int .i64 (f:Int),.int .i64 (K:Int),.int .i64 EK]) rfl (HO.out.later AX) (HA.out.trans AX).below.size AD;have K1:=AC k1;have K2:=AC k2;have K3:=AC (k3 w (le_refl _) (HA.out.trans AX));have e4:w4.cell? ⟨p+1,1,none⟩=some (.int .i64 K):=AE (FF k4 (AB ((AA.refl _).alloc _) Ah) (HO.out.under AD)) 1;clear k1 k2 k3 k4;go_wp2_with (at_builtin;refine Lib.wpList_append_run _ rfl _ _ _ _ rfl _ _ rfl rfl _ _ K1.out ?_)
       go_roundg gg
       case measure=>omega
       case rel=>exact ⟨K3.out,K,D++[((f:Int),(K:Int),EK)],rfl,by have:=t8.out;omega,by have:=t8.out;omega,by rw[length_append];simp;omega,K2.out,kj.out⟩
      ·have d3:((k:Int) == (f:Int))=false:=by simpa using (by omega:(k:Int)≠(f:Int))
       have tS:Hid (Ek=EK):=AC (by rw[<-vB.out,tL,HEK.out]);have z7:Hid (K=k):=AC tL;clear q tL
       go_upto_region 13 with fail
       refine JL wo (p+1) (.cells #[.int .i64 f,.int .i64 k,.int .i64 Ek] 184) ?_;intro w3 AX Ah;have CB:=AE Ah;rw[tS.out,<-z7.out]at Ah CB;obtain ⟨u2,w4,k1,k2,k3,k4⟩:=Z9 kh ((f:Int),(K:Int),EK) (cs:= #[.int .i64 (f:Int),.int .i64 (K:Int),.int .i64 EK]) rfl (HO.out.later AX) (HA.out.trans AX).below.size AD;have K1:=AC k1;have K2:=AC k2;have K3:=AC (k3 w (le_refl _) (HA.out.trans AX));have e4:w4.cell? ⟨p+1,1,none⟩=some (.int .i64 K):=AE (FF k4 (AB ((AA.refl _).alloc _) Ah) (HO.out.under AD)) 1;clear k1 k2 k3 k4;go_wp2_with (at_builtin;refine Lib.wpList_append_run _ rfl _ _ _ _ rfl _ _ rfl rfl _ _ K1.out ?_)
       go_roundg gg
       case measure=>omega
       case rel=>exact ⟨K3.out,K,D++[((f:Int),(K:Int),EK)],rfl,by have:=t8.out;omega,by have:=t8.out;omega,by rw[length_append];simp;omega,K2.out,kj.out⟩
     ·have HGO:Hid (FX l m f (n-(i+1)) (i+1)=T):=AC (by
       rw[<-RA.out,<-HL.out];exact (lU lj (by rw[d8.out];omega)).symm)
      obtain ⟨bl,Lp⟩:=BZ (decide (cr=9\/cr=32));have HBL:=AC (fun w=>XT ca cn cr cs w bl Lp);have FA:Hid (th l i=bl):=AC (by rw[HB.out,<-Lp];rfl);clear Lp;have aU:decide (m<E+y)=false\/decide (m<E+y)=true/\decide (f<i)=false:=by
       by_cases q:m<E+y
       ·exact .inr ⟨decide_eq_true q,decide_eq_false AD⟩
       ·exact .inl (decide_eq_false q)
      clear iP;rcases aU with d1|⟨d1,d2⟩
      all_goals
       go_upto_region 16 with fail
       first|refine BW (fun wS=>AA wo wS/\wS.heap[p]?=some (.cells #[.int .i64 f,.int .i64 ((i:Int)+1),.int .i64 (E+y)] 184)/\wS.heap[p+1]?=some (.cells #[.int .i64 f,.int .i64 k,.int .i64 Ek] 184)) ⟨BQ,CG,CG⟩ ?_|refine AQ (fun wS=>AA wo wS/\wS.heap[p]?=some (.cells #[.int .i64 f,.int .i64 ((i:Int)+1),.int .i64 (E+y)] 184)/\wS.heap[p+1]?=some (.cells #[.int .i64 f,.int .i64 k,.int .i64 Ek] 184)) ⟨BQ,CG,CG⟩ ?_
       rintro w3 ⟨AX,Ah,BD⟩;have CB:=AE Ah;obtain ⟨b',Yj,e',Rh,c0,c1,c2,c3⟩:=Lq (HV.out.later (HA.out.trans AX)) i lj;obtain ⟨rfl,rfl⟩:b'=b/\Yj=off:=by cases e';exact ⟨rfl,rfl⟩
       rw[zc.out]at c0 c1 c2 c3;simp only at c0 c1 c2 c3
       clear e';go_wp2_with fail;refine (HBL _).mono ?_;rintro e w4 ⟨rfl,Ao⟩;have BK:=AB Ao Ah;have CE:=AB Ao BD;have Dz:=AE BK;obtain ⟨Is,Me⟩:=DX CE;(try clear CB);have KU:=AX.trans Ao
       cases bl with
       |false=>
        have HLN:Hid (Gn l f (i+1)=k):=AC (by rw[fw hfi FA.out,HLS.out]);go_wp2_with fail;go_roundg (n-(i+1))
        case measure=>omega
        case rel=>exact ⟨KU,rfl,rfl,i+1,k,rfl,AD,AD,by go_num,HLN.out,HGO.out,by rw[d8.out];exact BK,by rw[HEK.out];exact CE⟩
       |true=>
        have HLN:Hid (Gn l f (i+1)=i+1):=AC (df hfi FA.out)
        go_upto_region 8 with fail
        refine BW (fun wS=>AA wo wS/\wS.heap[p]?=some (.cells #[.int .i64 f,.int .i64 ((i:Int)+1),.int .i64 (E+y)] 184)/\wS.heap[p+1]?=some (.cells #[.int .i64 f,.int .i64 ((i:Int)+1),.int .i64 (E+y)] 184)) ⟨BQ,CG,CG⟩ ?_;rintro w5 ⟨Bd,DD,J2⟩;go_wp2_with fail;go_roundg (n-(i+1))
        case measure=>omega
        case rel=>exact ⟨Bd,rfl,rfl,i+1,i+1,rfl,AD,AD,by go_num,HLN.out,HGO.out,by rw[d8.out];exact DD,by rw[d8.out];exact J2⟩
   ·obtain rfl:i=n:=AD
    have HTn:Hid (T=i):=AC (by rw[<-RA.out,sub_self];rfl);have qq:Hid (FB l m f=i):=AC (by rw[eD (by rw[HL.out,HT.out,HTn.out]),HL.out]);have kj:Hid (D++[((f:Int),(i:Int),E)]=vE):=AC (by
     have h:=pM.out;rw[qq.out,HL.out,if_pos (le_refl _),HE.out]at h;exact h)
    obtain ⟨u2,w4,k1,k2,k3,-⟩:=Z9 kh ((f:Int),(i:Int),E) (cs:= #[.int .i64 (f:Int),.int .i64 (i:Int),.int .i64 E]) rfl (HO.out.later AW) (HA.out.trans AW).below.size AD;have K1:=AC k1;have K2:Hid (OF dU 184 w4 w.heap.size u2 vE):=AC (by rw[<-kj.out];exact k2);have K3:=AC (k3 w (le_refl _) (HA.out.trans AW));clear k1 k2 k3;go_wp2_with (at_builtin;refine Lib.wpList_append_run _ rfl _ _ _ _ rfl _ _ rfl rfl _ _ K1.out ?_)
    rw[Exit.noGoto_ret];go_ret;exact ⟨_,rfl,K3.out,K2.out⟩
def RX(R:Aa):List Int:=R.flatMap fun r=>replicate r.1.toNat r.2
theorem G7(r:Int × Int)(R:Aa):RX (r::R)=replicate r.1.toNat r.2++RX R:=rfl
def Mu(R:Aa):Prop:=∀r∈R,1<=r.1/\r.1<=16777216/\BO r.2
theorem Mu.tail(h:Mu (r::R)):Mu R:=fun x hx=>h x (List.mem_cons_of_mem _ hx)
theorem Mu.head(h:Mu (r::R)):1<=r.1/\r.1<=16777216/\BO r.2:=h r List.mem_cons_self
def KA:Aa->Nat->Aa
 |[],_=>[]
 |(k,s)::R,n=>if k<=(n:Int) then KA R (n-k.toNat) else (k-n,s)::R
theorem Vf:∀{R:Aa} {n:Nat},Mu R->Mu (KA R n)
 |[],n,h=>h
 |(k,s)::R,n,h=>by
  unfold KA;split
  ·exact Vf h.tail
  ·have hh:=h.head;simp only at hh
   intro r hr;rcases List.mem_cons.1 hr with rfl|hr
   ·exact ⟨by simp only;omega,by simp only;omega,hh.2.2⟩
   ·exact h.tail r hr
theorem VF:∀{R:Aa} {n:Nat},(KA R n).length<=R.length
 |[],n=>le_refl _
 |(k,s)::R,n=>by
  unfold KA;split
  ·exact Nat.le_succ_of_le VF
  ·simp
theorem Uj:∀{R:Aa} {n:Nat},Mu R->RX (KA R n)=(RX R).drop n
 |[],n,h=>by simp[KA,RX]
 |(k,s)::R,n,h=>by
  have hh:=h.head;simp only at hh
  unfold KA;split
  ·rename_i hk
   rw[Uj h.tail,G7,List.drop_append,length_replicate,List.drop_replicate,show (k,s).1.toNat-n=0 by simp only;omega,List.replicate_zero,List.nil_append]
  ·rename_i hk
   rw[G7,G7,List.drop_append,length_replicate,List.drop_replicate,show n-k.toNat=0 by omega,List.drop_zero,show (k-(n:Int)).toNat=k.toNat-n by omega]
theorem cR:∀{R:Aa},Mu R->(RX R).getD 0 0=(R.head?.map (·.2)).getD 0
 |[],h=>rfl
 |(k,s)::R,h=>by
  have hh:=h.head;simp only at hh
  rw[G7,show (k,s).1.toNat=(k.toNat-1)+1 by simp only;omega,replicate_succ];rfl
theorem aV:∀l:List Int,RX (BM l)=l
 |[]=>rfl
 |s::l=>by
  have ih:=aV l;have hp:=Ts l;show RX (Bj s (BM l))=_
  cases hl:BM l with
  |nil=>rw[aC hl];rfl
  |cons y q=>
   obtain ⟨k,u⟩:=y;rw[hl]at ih hp;have hk:=(hp (k,u) List.mem_cons_self).1;simp only at hk
   rw[BV];split
   ·rename_i e
    subst e;rw[G7]at ih ⊢;simp only at ih ⊢
    rw[show (k+1).toNat=k.toNat+1 by omega,replicate_succ,List.cons_append,ih]
   ·rw[G7,ih];rfl
def Ll(B:Nat)(w:World)(v:Value)(R:Aa):Prop:=∃A cap,v=.slice A R.length cap/\R.length<=cap/\(0<R.length->∃g off cs,A=some ⟨g,off,none⟩/\B<=g/\w.heap[g]?=some (.cells cs 76)/\∀(j:Nat) (h:j<R.length),cs[off+j*2]?=some (.int .i64 R[j].1)/\cs[off+j*2+1]?=some (.int .i64 R[j].2))
theorem Ll.Zm(h:Ge w B v l):Ll B w v l:=by
 rcases h.2 with ⟨rfl,h0⟩|⟨g,cap,cur,rfl,h2,h3,h4,h5,h6,h7⟩
 ·exact ⟨none,0,by rw[h0],AD,fun hp=>by omega⟩
 ·refine ⟨_,cap,rfl,h4,fun _=>⟨g,0,cur,rfl,h2,h3,fun j hj=>?_⟩⟩;have e:∀k,k<l.length*2->cur[k]?=(Dp l)[k]?:=fun k hk=>by
   have:(cur.toList.take (l.length*2))[k]?=(Dp l)[k]?:=by rw[h7]
   rw[List.getElem?_take_of_lt hk]at this;simpa using this
  rw[Nat.zero_add,e _ AD,e _ AD,M_,Oz,List.getElem?_eq_getElem hj];exact ⟨rfl,rfl⟩
theorem Ll.nil(B:Nat)(w:World):Ll B w (.slice none 0 0) []:=⟨none,0,rfl,le_refl _,fun h=>absurd h Ar⟩
theorem Ll.later(h:Ll B w v R)(ha:AA w w'):Ll B w' v R:=by
 obtain ⟨A,cap,h1,h2,h3⟩:=h;refine ⟨A,cap,h1,h2,fun h0=>?_⟩;obtain ⟨g,off,cs,e,hB,hg,hc⟩:=h3 h0;exact ⟨g,off,cs,e,hB,AB ha hg,hc⟩
theorem Ll.form(h:Ll B w v R):∃A cap,v=.slice A R.length cap/\R.length<=cap:=by
 obtain ⟨A,cap,h1,h2,_⟩:=h;exact ⟨A,cap,h1,h2⟩
theorem bS(w:World):(Go.sizeOf (prog.elem 35)).run prog w=.ok 2 w:=by simp[go_sem]
theorem Ll.cut{m:Nat}(h:Ll B w (.slice A (m+1) cap) (r::R))(hm:R.length=m):∃A' DZ,Ll B w (.slice A' m DZ) R/\∀w',(Instr.sliceAt 35 (.slice A (m+1) cap) (some (.int .i64 1)) none none).run prog w'=.ok (.slice A' m DZ) w':=by
 subst hm;obtain ⟨A',DZ,e,h2,h3⟩:=h;cases e;obtain ⟨g,off,cs,rfl,hB,hg,hc⟩:=h3 Ar;rw[length_cons]at h2;refine ⟨some ⟨g,if cap=1 then off else off+2,none⟩,cap-1,⟨_,_,rfl,AD,fun h0=>⟨g,_,cs,rfl,hB,hg,fun j hj=>?_⟩⟩,fun w'=>?_⟩
 ·rw[if_neg AD];have:=hc (j+1) (by rw[length_cons];omega)
  rw[show off+(j+1)*2=off+2+j*2 by omega]at this;simpa using this
 ·rw[run_sliceAt_slice w' _ _ _ _ _ underlying35,run_slice_l w' _ (some ⟨g,off,none⟩) (R.length+1) cap underlying35 .i64 1 AD AD];rw[bS];simp only[Result.andThen,sliced];split
  ·rename_i e
   rw[if_pos (by simpa using e)];rfl
  ·rename_i e
   rw[if_neg (by simpa using e),Option.map_some,Db];rfl
theorem Ll.head(h:Ll B w (.slice A n cap) (r::R)):∃g off cs,A=some ⟨g,off,none⟩/\B<=g/\w.heap[g]?=some (.cells cs 76)/\cs[off]?=some (.int .i64 r.1)/\cs[off+1]?=some (.int .i64 r.2):=by
 obtain ⟨A',DZ,e,h2,h3⟩:=h;cases e;obtain ⟨g,off,cs,rfl,hB,hg,hc⟩:=h3 Ar;have:=hc 0 Ar
 exact ⟨g,off,cs,rfl,hB,hg,by simpa using this⟩
theorem Ll.put{g off:Nat}(x:Int)(h:Ll B w (.slice (some ⟨g,off,none⟩) n cap) (r::R)):Ll B (w.setCell ⟨g,off,none⟩ (.int .i64 x)) (.slice (some ⟨g,off,none⟩) n cap) ((x,r.2)::R):=by
 obtain ⟨A',DZ,e,h2,h3⟩:=h;cases e;obtain ⟨g',Yj,cs,e,hB,hg,hc⟩:=h3 Ar;cases e;refine ⟨_,_,rfl,h2,fun _=>⟨g,off,cs.setIfInBounds off (.int .i64 x),rfl,hB,BI hg rfl,fun j hj=>?_⟩⟩
 cases j with
 |zero=>
  have h0:=hc 0 Ar;have BN:off<cs.size:=(Array.getElem?_eq_some_iff.1 (by simpa using h0.1)).1;refine ⟨?_,?_⟩
  ·rw[zero_mul,add_zero,Array.getElem?_setIfInBounds_self,if_pos BN];rfl
  ·rw[zero_mul,add_zero,Array.getElem?_setIfInBounds_ne AD];simpa using h0.2
 |succ j=>
  have:=hc (j+1) (by simpa using hj)
  rw[Array.getElem?_setIfInBounds_ne AD,Array.getElem?_setIfInBounds_ne AD];simpa using this
def gQ(B:Nat)(w w':World):Prop:=w'=w\/∃g i x cs,B<=g/\w.heap[g]?=some (.cells cs 76)/\w'=w.setCell ⟨g,i,none⟩ x
theorem gQ.any{W:World}(h:gQ B w w')(hB:W.heap.size<=B)(ha:AA W w):AA W w':=by
 rcases h with rfl|⟨g,i,x,cs,h1,h2,rfl⟩
 ·exact ha
 ·exact ha.setCell (p:=⟨g,i,none⟩) (by simp only;omega) x
theorem gQ.K11(h:gQ B w w'){v:Value}{l:Bc}{C:Nat}(o:OF Gf 160 w C v l):OF Gf 160 w' C v l:=by
 rcases h with rfl|⟨g,i,x,cs,h1,h2,rfl⟩
 ·exact o
 ·exact JJ h2 (by decide) x i o
theorem Ll.grown{C:Nat}{w2:World}{vc:Value}{l:Bc}{cs:Array Value}(h:Ll B w v R)(o:OF Gf 160 w C vc l)(hg:(w.alloc (.cells cs 160)).grownBy w2 vc.ownBlock):Ll B w2 v R:=by
 have a1:AA w (w.alloc (.cells cs 160)):=(AA.refl w).alloc _;have o2:=o.later a1;obtain ⟨A,cap,h1,h2,h3⟩:=h.later a1;refine ⟨A,cap,h1,h2,fun h0=>?_⟩;obtain ⟨g,off,cs,e,hB,ci,hc⟩:=h3 h0;exact ⟨g,off,cs,e,hB,FF hg ci (UN o2 ci (by decide)),hc⟩
theorem YA(v:Value)(R:Aa)(B:Nat)(w:World)(c:Int)(hc:(R.head?.map (·.2)).getD 0=c)(h:Ll B w v R):Calls prog 199 #[v] w fun e w'=>e=.returned (.int .i64 c)/\w=w':=by
 obtain ⟨A,cap,rfl,h2⟩:=h.form
 cases R with
 |nil=>
  have HC:=AC hc;clear h hc;simp only[List.length_nil];go_enter func199,ntmps199;go_wp2_with fail;go_ret;exact ⟨CN HC.out,rfl⟩
 |cons r R=>
  obtain ⟨g,off,cs,rfl,hB,hg,c0,c1⟩:=h.head;have e1:w.cell? ⟨g,off+1,none⟩=some (.int .i64 r.2):=by rw[AE hg];exact c1
  have HC:=AC hc;rw[length_cons]at *;obtain ⟨m,hm⟩:=BZ (R.length);rw[hm]at *;clear h hc hm hg c0 c1;go_enter func199,ntmps199;go_wp2_with fail;go_ret;exact ⟨CN HC.out,rfl⟩
theorem Uf(v:Value)(R:Aa)(n B:Nat)(w:World)(h:Ll B w v R)(hp:Mu R)(hn:n<=1000)(hl:R.length<=100000):Calls prog 200 #[v,.int .i64 (n:Int)] w fun e w'=>∃u,e=.returned u/\Ll B w' u (KA R n)/\gQ B w w':=by
 obtain ⟨A,cap,rfl,h2⟩:=h.form;have HV:=AC h;have HP:=AC hp;obtain ⟨L,hL⟩:=BZ (R.length);have HL:=AC hL;rw[hL]at HV h2 hl ⊢;clear h hp hL;go_enter func200,ntmps200;go_wp2_with fail;go_loopg [0,1] L (fun kk sv nv wr=>wr=w/\∃(R':Aa) (m c2:Nat) (A2:Option Addr),kk=R'.length/\nv=.int .i64 (m:Int)/\m<=1000/\sv=.slice A2 kk c2/\kk<=c2/\kk<=L/\Ll B w (.slice A2 kk c2) R'/\Mu R'/\KA R n=KA R' m)
 case atStart=>exact ⟨rfl,R,n,cap,A,HL.out.symm,rfl,hn,rfl,h2,le_refl _,HV.out,HP.out,rfl⟩
 case round=>
  obtain ⟨rfl,R',m,c2,A2,hk,rfl,hm,rfl,D4,X2,hs,hp,hb⟩:=hrel;have HS:=AC hs;have HPP:=AC hp;have HB:=AC hb;clear hb
  cases R' with
  |nil=>
   obtain rfl:gk=0:=hk
   clear hs hp;go_wp2_with fail;go_ret;exact ⟨_,rfl,by rw[HB.out];exact HS.out,.inl rfl⟩
  |cons r R'=>
   obtain ⟨q,hq⟩:=BZ (R'.length);obtain rfl:gk=q+1:=by rw[hk,length_cons,hq]
   obtain ⟨g,off,cs,rfl,hBg,hg,c0,c1⟩:=hs.head;obtain ⟨A3,c3,uX,hcut⟩:=hs.cut hq;have uX:=AC uX;have HG:=AC hg;have d0:wr.cell? ⟨g,off,none⟩=some (.int .i64 r.1):=by rw[AE hg];exact c0
   have hh:=hp.head;obtain ⟨k,s⟩:=r;simp only at d0 hh
   obtain ⟨k1,k2,-⟩:=hh;have i1:(0:Int)<(q:Int)+1:=AD;have HQ:=AC hq;have hc3:q<=c3:=by obtain ⟨_,_,e,he⟩:=uX.out.form;cases e;omega
   have fz:=Bq hg off;clear hs hp hk hq c0 c1;by_cases q_:k<=(m:Int)
   ·have FA:Hid (KA R n=KA R' (m-k.toNat)):=AC (by rw[HB.out];show (if k<=(m:Int) then _ else _)=_;rw[if_pos q_]);clear hg;go_wp2_with fail;go_roundg q
    case measure=>omega
    case rel=>exact ⟨rfl,R',m-k.toNat,c3,A3,HQ.out.symm,by congr 1;omega,AD,rfl,hc3,AD,uX.out,HPP.out.tail,FA.out⟩
   ·have hkf:decide (k<=(m:Int))=false:=decide_eq_false q_;have FA:Hid (Ll B (wr.setCell ⟨g,off,none⟩ (.int .i64 (k-m))) (.slice (some ⟨g,off,none⟩) (q+1) c2) (KA R n)):=AC (by
     rw[HB.out];show Ll B _ _ (if k<=(m:Int) then _ else _)
     rw[if_neg q_];exact HS.out.put (k-m))
    clear hg;go_wp2_with fail;go_ret;exact ⟨_,rfl,FA.out,.inr ⟨g,off,_,cs,hBg,HG.out,rfl⟩⟩
end
end Go.Proofs.YtamhnffokoejjaaGreatDoor
