import Derived.Test.YtamhnffokoejjaaGreatDoorKwbg
import Derived.Test.YtamhnffokoejjaaGreatDoorKwbn
set_option linter.all false
set_option maxHeartbeats 1600000
set_option maxRecDepth 100000
namespace Go.Proofs.YtamhnffokoejjaaGreatDoor
open Nat(le_succ)
open Go.Proofs.Tryz
open Go.RowKit
section
variable{y:Int}{B:Nat}{l:Qs}{v:Value}{w:World}
theorem V4(b1 b2 y:Int)(q:Nat)(c:Bool)(w:World)(hp:w.heap[q]?=some (.cells #[.int .i64 y] 3))(hc:decide (b1<=y/\y<b2)=c):
 Calls prog 131 #[.agg #[.int .i64 b1,.int .i64 b2],.pointer (some ⟨q,0,none⟩)] w fun e w'=>e=.returned (.bool c)/\AA w w':=by
 obtain ⟨Z21,Z20⟩:=Rn hp;have HO:=AC hc;clear hc hp;have HA:=AC ((AA.refl w).alloc (.cells #[.int .i64 b1,.int .i64 b2] 69));by_cases h1:b1<=y
 ·by_cases h2:y<b2
  ·have HB:Hid (true=c):=AC (by rw[<-HO.out];exact (decide_eq_true ⟨h1,h2⟩).symm);go_enter func131,ntmps131;go_wp2_with fail;go_ret;exact ⟨Am HB.out,HA.out⟩
  ·have HB:Hid (false=c):=AC (by rw[<-HO.out];exact (decide_eq_false (fun h=>h2 h.2)).symm);go_enter func131,ntmps131;go_wp2_with fail;go_ret;exact ⟨Am HB.out,HA.out⟩
 ·have HB:Hid (false=c):=AC (by rw[<-HO.out];exact (decide_eq_false (fun h=>h1 h.1)).symm);go_enter func131,ntmps131;go_wp2_with fail;go_ret;exact ⟨Am HB.out,HA.out⟩
def Gg(y:Int)(s:Int × Int):Bool:=decide (s.1<=y/\y<s.2)
def Ln(l:Qs)(y:Int):Int:=if l.any (Gg y)=true then 0 else 3
def FW(l:Qs)(y:Int):Qs:=if l.any (Gg y)=true then l.take (l.findIdx (Gg y))++l.drop (l.findIdx (Gg y)+1) else []
def pg(l:Qs)(y:Int)(W:World)(e:Ending)(w':World):Prop:=∃u,e=.returned (.tuple #[u,.int .i64 (Ln l y)])/\AA W w'/\QT w' u (FW l y)
theorem Su(h:l.any (Gg y)=false):Ln l y=3/\FW l y=[]:=by unfold Ln FW;rw[if_neg (by rw[h];decide),if_neg (by rw[h];decide)];exact ⟨rfl,rfl⟩
theorem Z7{j:Nat}(h:j<l.length)(hf:(l.take j).any (Gg y)=false)(hp:Gg y l[j]=true):Ln l y=0/\FW l y=l.take j++l.drop (j+1):=by
 have h1:l.any (Gg y)=true:=List.any_eq_true.2 ⟨_,List.getElem_mem h,hp⟩;have h2:=Zz h hf hp;unfold Qr at h2;rw[if_pos h1]at h2;have h3:l.findIdx (Gg y)=j:=AD;unfold Ln FW;rw[if_pos h1,if_pos h1,h3];exact ⟨rfl,rfl⟩
theorem fA(v:Value)(l:Qs)(y:Int)(w:World)(hv:QR w v l)(hl:l.length<=60000):Calls prog 86 #[v,.int .i64 y] w (pg l y w):=by
 have Q8:∀args w,(callFunc 131 args).run prog w=.ok (.enter 131 args) w:=enters_of func131 AY rfl;have WD:∀q,gm (fun x=>x.heap[q]?=some (.cells #[.int .i64 y] 3)) 131 #[.pointer (some ⟨q,0,none⟩)] (Gg y):=fun q b1 b2 w' hp=>V4 b1 b2 y q _ w' hp rfl
 have HI:=AC (fun (w':World) (q:Nat) (h:AA w w') (hp:w'.heap[q]?=some (.cells #[.int .i64 y] 3))=>Yc v _ _ (Gg y) l _ w' _ rfl (hv.later h) AD hp (fun _ _ h1 h2=>AB h2 h1) Q8 (WD q));clear Q8 WD;rcases Yh (Gg y) l with ⟨h1,h2⟩|⟨-,j,h2,lj,hf,hp⟩
 ·have HE:=AC (Su h1);rw[h2]at HI;obtain ⟨A,cap,rfl,-⟩:=hv.form;clear hv hl h1 h2;generalize l.length=m at *;go_enter func86,ntmps86;go_wp2_with fail;refine AQ (fun wS=>AA w wS/\wS.heap[w.heap.size]?=some (.cells #[.int .i64 y] 3)) ⟨BQ,CG⟩ ?_;rintro w1 ⟨AJ,AH⟩;have AG:=AJ;refine (HI _ _ AG AH).mono ?_;rintro e w2 ⟨rfl,AL⟩;have AR:=AG.trans AL;go_wp2_with fail;refine bodyPost_ret (v:=.tuple #[.slice none 0 0,.int .i64 3]) (by simp[results,results86,go_sem]) rfl ⟨_,by rw[HE.out.1],AR,by rw[HE.out.2];exact QT.void _⟩
 ·have HE:=AC (Z7 lj hf hp);rw[h2]at HI;obtain ⟨A1,Cg,p1,k1⟩:=hv.Sk Bk j AD;obtain ⟨u3,p3,k3⟩:=hv.jp Bk (j+1) AD;have k3':∀w',(Instr.sliceAt 36 v (some (.int .i64 ((j:Int)+1))) none none).run prog w'=.ok u3 w':=k3;have K1:=AC k1;have K3:=AC k3';have Yv:=AC (fun (x:World) (u:Value) (hx:AA w x) (h:Jm (.slice A1 j Cg) u3 u x)=>(show Calls prog 129 #[u] x (fun e w'=>∃y,e=.returned y/\AA x w'/\QT w' y (l.take j++l.drop (j+1))) from by
   obtain ⟨g,rfl,h0,h1,h2⟩:=h;exact (iq g _ u3 _ _ x h0 h1 h2 (p1.later hx) (p3.later hx) (by rw[List.length_take,List.length_drop];omega)).mono fun _ _ q=>q.qt))
  obtain ⟨A3,E7,rfl,-⟩:=p3.form;obtain ⟨A,cap,rfl,-⟩:=hv.form;have hj:(j:Int)+1<=60000:=AD;clear hv h2 hf hp p1 p3 k1 k3 k3';generalize (l.drop (j+1)).length=m3 at *;generalize l.length=m at *;go_enter func86,ntmps86;go_wp2_with fail;refine AQ (fun wS=>AA w wS/\wS.heap[w.heap.size]?=some (.cells #[.int .i64 y] 3)) ⟨BQ,CG⟩ ?_;rintro w1 ⟨AJ,AH⟩;have AG:=AJ;refine (HI _ _ AG AH).mono ?_;rintro e w2 ⟨rfl,AL⟩;have AR:=AG.trans AL;have d0:decide ((j:Int)<0)=false:=decide_eq_false AD;go_wp2_with fail;apply Wild.AP (11) [⟨2,14,.slice A1 j Cg,false,fun v _=>v=.slice A1 j Cg⟩,⟨6,18,.slice A3 m3 E7,false,fun v _=>v=.slice A3 m3 E7⟩,⟨7,19,undef,true,Jm (.slice A1 j Cg) (.slice A3 m3 E7)⟩,⟨8,20,undef,true,fun u w=>QT w u (l.take j++l.drop (j+1))⟩,⟨9,4,undef,true,fun u w=>QT w u (l.take j++l.drop (j+1))⟩] [⟨7,19,Jm (.slice A1 j Cg) (.slice A3 m3 E7)⟩,⟨8,20,fun u w=>QT w u (l.take j++l.drop (j+1))⟩,⟨9,4,fun u w=>QT w u (l.take j++l.drop (j+1))⟩] rfl AY AY AY Ar AY
  case hstab=>
   intro c hc;rcases Cv hc with rfl|rfl|rfl|rfl|rfl
   ·intro v x y BE hv;exact hv
   ·intro v x y BE hv;exact hv
   ·intro v x y BE hv;exact (fun h k=>Jm.later h k) BE hv
   ·intro v x y BE hv;exact (fun h k=>QT.later k h) BE hv
   ·intro v x y BE hv;exact (fun h k=>QT.later k h) BE hv
  case hfix=>
   intro c hc;rcases Cv hc with rfl|rfl|rfl|rfl|rfl
   ·exact .inr fun u x h=>h
   ·exact .inr fun u x h=>h
   ·exact .inl rfl
   ·exact .inl rfl
   ·exact .inl rfl
  case hlex=>
   intro U hU;refine Hj ?_
   repeat (go_big_quiet_step (fail))
   exact wpQuiet_nil rfl
  case hstep=>
   intro j hj o ho;have CQ:j=0\/j=1\/j=2\/j=3\/j=4:=by simp at hj;omega
   rcases CQ with rfl|rfl|rfl|rfl|rfl
   ·cases ho;refine ⟨rfl,fun g x hx hp=>?_⟩;clear hp;refine Bp ?_
    (refine Wild.Gx ?_;simp[go_sem,execOp,K1.out])
   ·cases ho;refine ⟨rfl,fun g x hx hp=>?_⟩;clear hp;refine Bp ?_
    (refine Wild.Gx ?_;simp[go_sem,execOp,K3.out])
   ·cases ho;refine ⟨rfl,fun g x hx hp=>?_⟩;clear hp;refine Bp ?_
    (refine Wild.Ea (v:=.slice (some ⟨x.heap.size,0,none⟩) 2 2) (w':=x.alloc (.cells #[.slice A1 j Cg,.slice A3 m3 E7] 36)) (by simp[go_sem,execOp]) ((AA.refl x).alloc _) lB)
   ·cases ho;refine ⟨rfl,fun g x hx hp=>?_⟩;have zO:(Jm (.slice A1 j Cg) (.slice A3 m3 E7)) (g 7) x:=hp _ (List.mem_of_getElem? (i:=0) rfl) (List.contains_iff_mem.1 AY);clear hp;refine Bp ?_;refine AO ?_ (Wild.Ai (Yv x _ (AR.trans hx) zO))
    first|(simp[go_sem,execOp];done)|simp[go_sem,execOp,Q8]
   ·cases ho;refine ⟨rfl,fun g x hx hp=>?_⟩;have xi:(fun u w=>QT w u (l.take j++l.drop (j+1))) (g 8) x:=hp _ (List.mem_of_getElem? (i:=1) rfl) (List.contains_iff_mem.1 AY);clear hp;refine Bp ?_;refine Wild.Dv (v:=g 8) ?_ xi;simp[go_sem,execOp]
  case htail=>
   intro g u Aw Az;have AX:AA w2 (later u):=⟨u,rfl⟩;generalize later u=w3 at *;clear u Az;obtain ⟨rX,-⟩:=Aw _ (List.mem_of_getElem? (i:=0) rfl);(try dsimp only at rX)
   obtain ⟨tR,-⟩:=Aw _ (List.mem_of_getElem? (i:=1) rfl);(try dsimp only at tR)
   obtain ⟨KY,-⟩:=Aw _ (List.mem_of_getElem? (i:=2) rfl);(try dsimp only at KY)
   clear Aw;refine DH ?_;generalize g 7=v19 at *;generalize g 8=v20 at *;generalize g 9=v4 at *;have An:=AR.trans AX;go_wp2_with fail;refine bodyPost_ret (v:=.tuple #[v4,.int .i64 0]) (by simp[results,results86,go_sem]) rfl ⟨_,by rw[HE.out.1],An,by rw[HE.out.2];exact KY⟩
def MX(F:List Int)(n x:Int):Int:=if 0<=x/\x<=n then ((below x F:Nat):Int) else 0
def Te(F:List Int)(n x:Int):Int:=if 0<=x/\x<=n then x-Jw F (below x F) else 0
theorem Xc(tg g:Nat)(most:Int)(t:Tr)(x k c:Int)(b:Bool)(w:World)(h:E4 w tg g most t)(ok:t.Ok)(hk:MX (J_ t) t.len x=k)(hc:Te (J_ t) t.len x=c)(hb:decide (0<=x/\x<=(t.len:Int))=b):
 Calls prog 109 #[.pointer (some ⟨tg,0,none⟩),.int .i64 x] w fun e w'=>e=.returned (.tuple #[.int .i64 k,.int .i64 c,.bool b])/\AA w w':=by
 subst hk hc hb;unfold MX Te;by_cases hx:0<=x/\x<=(t.len:Int)
 ·rw[if_pos hx,if_pos hx,decide_eq_true hx];obtain ⟨X,rfl⟩:=Int.eq_ofNat_of_zero_le hx.1;obtain ⟨b1,b2,b3,b4⟩:=Iq (F:=J_ t) hx.1 hx.2;have h0:=(lG t).s0 b1;exact Qx tg g most t X _ _ w h ok AD rfl rfl ⟨h0,b2⟩ (by rw[<-EZ t];exact b1)
 ·rw[if_neg hx,if_neg hx,decide_eq_false hx];exact eO tg g most t x w h AD
theorem YB(f e0:Int)(tg g:Nat)(most:Int)(t:Tr)(c:Int × Int)(w:World)(h:E4 w tg g most t)(ok:t.Ok)(hc:XB (J_ t) t.len (f,e0)=c):
 Calls prog 151 #[.agg #[.int .i64 f,.int .i64 e0],.pointer (some ⟨tg,0,none⟩)] w fun e w'=>e=.returned (.agg #[.int .i64 c.1,.int .i64 c.2])/\AA w w':=by
 have HP:=AC (fun (w':World) (x k c:Int) (b:Bool) (a:AA w w')=>Xc tg g most t x k c b w' (h.later a) ok);have hF:(J_ t).length<=60000:=by rw[EZ];exact ok.nf
 obtain ⟨k1,O_⟩:∃k,MX (J_ t) t.len f=k:=⟨_,rfl⟩;obtain ⟨c1,Om⟩:∃k,Te (J_ t) t.len f=k:=⟨_,rfl⟩;obtain ⟨k2,Gh⟩:∃k,MX (J_ t) t.len e0=k:=⟨_,rfl⟩;obtain ⟨c2,D4⟩:∃k,Te (J_ t) t.len e0=k:=⟨_,rfl⟩;have HK:=AC (And.intro (And.intro O_ Om) (And.intro Gh D4));have l1:=FT (J_ t) f;have l2:=FT (J_ t) e0;have Iz:0<=k1/\k1<=60000:=by rw[<-O_];unfold MX;split <;> omega
 have Hr:0<=k2/\k2<=60000:=by rw[<-Gh];unfold MX;split <;> omega
 unfold MX at O_ Gh;unfold XB at hc;simp only at hc
 by_cases q1:0<=f/\f<=(t.len:Int)
 ·rw[if_pos q1]at O_;have nY:=AC (decide_eq_true q1);by_cases q2:0<=e0/\e0<=(t.len:Int)
  ·rw[if_pos q2]at Gh;rw[if_pos ⟨q1.1,q1.2,q2.1,q2.2⟩,O_,Gh]at hc;have HC:=AC hc;have SB:=AC (decide_eq_true q2);clear h ok hF O_ Gh Om D4 hc l1 l2 q1 q2;go_enter func151,ntmps151;go_wp2_with fail;refine AQ (fun wS=>AA w wS/\wS.heap[w.heap.size]?=some (.cells #[.int .i64 f,.int .i64 e0] 69)/\wS.heap[w.heap.size+1]?=some (.cells #[.int .i64 0,.int .i64 0] 170)) ⟨BQ,CG,CG⟩ ?_;rintro w1 ⟨AJ,AH,Aq⟩;have AG:=AJ;refine (HP _ f k1 c1 true AG HK.out.1.1 HK.out.1.2 nY.out).mono ?_;rintro e w2 ⟨rfl,AL⟩;have AR:=AG.trans AL;have AU:=AB AL AH;have BH:=AB AL Aq;have BS:=AE AU;go_wp2_with fail;refine (HP _ e0 k2 c2 true AR HK.out.2.1 HK.out.2.2 SB.out).mono ?_;rintro e w3 ⟨rfl,AX⟩;have An:=AR.trans AX;have BD:=AB AX BH;obtain ⟨Dm,FE⟩:=DX BD;(try clear BS);go_wp2_with fail;have s9:=BI (i:=0+1) (v:=.int .i64 (k2+1)) (BI (i:=0) (v:=.int .i64 (k1+1)) BD rfl) rfl;have r9:=AE s9;refine bodyPost_ret (v:=.agg #[.int .i64 (k1+1),.int .i64 (k2+1)]) (by simp[results,results151,go_sem,r9]) rfl ⟨by rw[<-HC.out],?_⟩;exact (An.setCell (p:=⟨w.heap.size+1,0,none⟩) (le_succ _) _).setCell (p:=⟨w.heap.size+1,0+1,none⟩) (le_succ _) _
  ·rw[if_neg (fun q=>q2 ⟨q.2.2.1,q.2.2.2⟩)]at hc;have HC:=AC hc;have SB:=AC (decide_eq_false q2);clear h ok hF O_ Gh Om D4 hc l1 l2 q1 q2;go_enter func151,ntmps151;go_wp2_with fail;refine AQ (fun wS=>AA w wS/\wS.heap[w.heap.size]?=some (.cells #[.int .i64 f,.int .i64 e0] 69)/\wS.heap[w.heap.size+1]?=some (.cells #[.int .i64 0,.int .i64 0] 170)) ⟨BQ,CG,CG⟩ ?_;rintro w1 ⟨AJ,AH,Aq⟩;have AG:=AJ;refine (HP _ f k1 c1 true AG HK.out.1.1 HK.out.1.2 nY.out).mono ?_;rintro e w2 ⟨rfl,AL⟩;have AR:=AG.trans AL;have AU:=AB AL AH;have BH:=AB AL Aq;have BS:=AE AU;go_wp2_with fail;refine (HP _ e0 k2 c2 false AR HK.out.2.1 HK.out.2.2 SB.out).mono ?_;rintro e w3 ⟨rfl,AX⟩;have An:=AR.trans AX;have BD:=AB AX BH;obtain ⟨Dm,FE⟩:=DX BD;(try clear BS);go_wp2_with fail;have s9:=BI (i:=0+1) (v:=.int .i64 0) (BI (i:=0) (v:=.int .i64 0) BD rfl) rfl;have r9:=AE s9;refine bodyPost_ret (v:=.agg #[.int .i64 0,.int .i64 0]) (by simp[results,results151,go_sem,r9]) rfl ⟨by rw[<-HC.out],?_⟩;exact (An.setCell (p:=⟨w.heap.size+1,0,none⟩) (le_succ _) _).setCell (p:=⟨w.heap.size+1,0+1,none⟩) (le_succ _) _
 ·rw[if_neg (fun q=>q1 ⟨q.1,q.2.1⟩)]at hc;have HC:=AC hc;have nY:=AC (decide_eq_false q1);obtain ⟨b2,Hr⟩:∃b,decide (0<=e0/\e0<=(t.len:Int))=b:=⟨_,rfl⟩;have SB:=AC Hr;clear h ok hF O_ Gh Om D4 hc l1 l2 q1 Hr;go_enter func151,ntmps151;go_wp2_with fail;refine AQ (fun wS=>AA w wS/\wS.heap[w.heap.size]?=some (.cells #[.int .i64 f,.int .i64 e0] 69)/\wS.heap[w.heap.size+1]?=some (.cells #[.int .i64 0,.int .i64 0] 170)) ⟨BQ,CG,CG⟩ ?_;rintro w1 ⟨AJ,AH,Aq⟩;have AG:=AJ;refine (HP _ f k1 c1 false AG HK.out.1.1 HK.out.1.2 nY.out).mono ?_;rintro e w2 ⟨rfl,AL⟩;have AR:=AG.trans AL;have AU:=AB AL AH;have BH:=AB AL Aq;have BS:=AE AU;go_wp2_with fail;refine (HP _ e0 k2 c2 b2 AR HK.out.2.1 HK.out.2.2 SB.out).mono ?_;rintro e w3 ⟨rfl,AX⟩;have An:=AR.trans AX;have BD:=AB AX BH;obtain ⟨Dm,FE⟩:=DX BD;(try clear BS);go_wp2_with fail;have s9:=BI (i:=0+1) (v:=.int .i64 0) (BI (i:=0) (v:=.int .i64 0) BD rfl) rfl;have r9:=AE s9;refine bodyPost_ret (v:=.agg #[.int .i64 0,.int .i64 0]) (by simp[results,results151,go_sem,r9]) rfl ⟨by rw[<-HC.out],?_⟩;exact (An.setCell (p:=⟨w.heap.size+1,0,none⟩) (le_succ _) _).setCell (p:=⟨w.heap.size+1,0+1,none⟩) (le_succ _) _
theorem OB.form{l:Au}(h:OB w B v l):∃A cap,v=.slice A l.length cap:=by
 rcases h.2 with ⟨rfl,h0⟩|⟨g,c,cur,rfl,_⟩
 ·exact ⟨none,0,by rw[h0]⟩
 ·exact ⟨_,c,rfl⟩
theorem OB.none(w:World)(B:Nat):OB w B (.slice .none 0 0) []:=⟨rfl,.inl ⟨rfl,rfl⟩⟩
theorem wM{l:Au}(r:Int × Int)(ho:OB w B v l)(hB:B<=w.heap.size)(hl:l.length<=190000):
 ∃u w2,(Builtin.append_ #[152,152] 152 #[v,.slice (some ⟨w.heap.size,0,.none⟩) 1 1]).run prog (w.alloc (.cells #[.int .i64 r.1,.int .i64 r.2] 170))=.ok u w2/\OB w2 B u (l++[r])/\∀W,W.heap.size<=B->AA W w->AA W w2:=by
 have a1:AA w (w.alloc (.cells #[.int .i64 r.1,.int .i64 r.2] 170)):=(AA.refl w).alloc _;have hm:RB (w.alloc (.cells #[.int .i64 r.1,.int .i64 r.2] 170)) (.slice (some ⟨w.heap.size,0,.none⟩) 1 1) [r]:=RB.block (l:=[r]) (Ae rfl) rfl (Nat.le_refl 1);obtain ⟨u,w2,k1,k2,k3⟩:=Na (l:=l) (l2:=[r]) 152 (Nat.le_trans hB a1.below.size) (ho.later a1) hm (by simp;omega);exact ⟨u,w2,k1,k2,fun W h1 h2=>k3 W (h2.trans a1) h1⟩
theorem TT(v:Value)(l:Qs)(tg g:Nat)(most:Int)(t:Tr)(w:World)(hv:QR w v l)(hl:l.length<=5000)(h:E4 w tg g most t)(ok:t.Ok):
 Calls prog 110 #[v,.pointer (some ⟨tg,0,none⟩)] w (SZ w fun k=>Gz (J_ t) t.len k l):=by
 have hF:(J_ t).length<=60000:=by rw[EZ];exact ok.nf
 have HI:=AC (fun y=>Sf (n:=t.len) hF y l);have HH:=AC (fun (w':World) (f e0:Int) (a:AA w w')=>YB f e0 tg g most t _ w' (h.later a) ok rfl);obtain ⟨A,cap,rfl,h2,h3⟩:=hv;have Kk:Hid (∀(j:Nat) (h:j<l.length),∃b off,A=some ⟨b,off,none⟩/\b<w.heap.size/\w.cell? ⟨b,off+j*2,none⟩=some (.int .i64 l[j].1)/\w.cell? ⟨b,off+j*2+1,none⟩=some (.int .i64 l[j].2)):=AC (fun j hj=>by
  obtain ⟨b,off,e,hb,hc⟩:=h3 AD;exact ⟨b,off,e,hb,hc j hj⟩)
 clear h3 h ok hF;obtain ⟨S,hS⟩:∃S:Int × Int->Int × Int,XB (J_ t) t.len=S:=⟨_,rfl⟩;rw[hS]at HI HH;generalize (t.len:Int)=n at *;generalize J_ t=F at *;obtain ⟨m,hm⟩:=BZ (l.length);have HN:=AC hm;rw[hm]at h2 hl ⊢;clear hm hS;go_enter func110,ntmps110;go_wp2_with fail;go_loopg [5,10] m (fun kk ov iv wr=>∃(j:Nat),kk=m-j/\j<=m/\iv=.int .i64 (j:Int)/\AA w wr/\OB wr w.heap.size ov ((l.take j).map S))
 case atStart=>exact ⟨0,AD,AD,rfl,AA.refl _,OB.none _ _⟩
 case round=>
  obtain ⟨j,hk,hj,rfl,AW,ho⟩:=hrel;have HO:=AC ho;have HA:=AC AW;obtain ⟨A4,Kq,rfl⟩:=ho.form;by_cases BN:j<m
  ·have lj:j<l.length:=by rw[HN.out];exact BN
   obtain ⟨b,off,rfl,hb,k0,k1⟩:=Kk j lj;have c0:wr.cell? ⟨b,off+j*2,none⟩=some (.int .i64 l[j].1):=(AW.below.cell hb).trans k0;have c1:wr.cell? ⟨b,off+j*2+1,none⟩=some (.int .i64 l[j].2):=(AW.below.cell hb).trans k1;have HT:Hid ((l.take (j+1)).map S=(l.take j).map S++[S l[j]]):=AC (by rw[List.take_succ_eq_append_getElem lj,List.map_append];rfl);have uw:Hid (((l.take j).map S).length<=100000):=AC (by rw[List.length_map,List.length_take];omega);clear k0 k1 ho;generalize l[j]=x at *;obtain ⟨f,e0⟩:=x;simp only at c0 c1
   have HB:=AC ((AA.refl wr).alloc (.cells #[.int .i64 f,.int .i64 e0] 69));have HF:=AC (fun w' a=>HH w' f e0 a);clear AW;generalize S (f,e0)=r at *;obtain ⟨r1,r2⟩:=r;generalize fk:((l.take j).map S).length=nl at *;have HM:=AC fk;clear fk;go_wp2_with (first|(go_at_call 151;refine (HF _ (HA.out.trans HB.out)).mono ?_;rintro e w1 ⟨rfl,b1⟩;have Iz:=HB.out.trans b1;obtain ⟨u,w3,q1,q2,q3⟩:=wM (r1,r2) (HO.out.later Iz) (HA.out.trans Iz).below.size (by rw[HM.out];exact Nat.le_trans uw (by decide));have K1:=AC q1;have K2:=AC (And.intro (q3 w (Nat.le_refl _) (HA.out.trans Iz)) q2);clear b1 Iz q1 q2 q3)|(at_builtin;refine Lib.wpList_append_run _ rfl _ _ _ _ rfl _ _ rfl rfl _ _ K1.out ?_))
   go_roundg (m-(j+1))
   case measure=>omega
   case rel=>exact ⟨j+1,rfl,BN,by go_num,K2.out.1,by rw[HT.out];exact K2.out.2⟩
  ·obtain rfl:j=m:=AD
   have HE:Hid ((l.take j).map S=l.map S/\(l.map S).length<=100000):=AC ⟨by rw[List.take_of_length_le (Nat.le_of_eq HN.out)],by rw[List.length_map,HN.out];omega⟩;have HTd:=AC (TC _ (l.map S) wr (by rw[<-HE.out.1];exact HO.out.reads) HE.out.2);clear AW ho;generalize ((l.take j).map S).length=nl at *;go_wp2_with fail;refine HTd.out.mono ?_;rintro e w1 ⟨v1,T,rfl,b1,p1,g1,r1⟩;have HZ:=AC (And.intro (HA.out.trans b1) (And.intro p1 (And.intro g1 r1)));obtain ⟨A5,IA,rfl,-⟩:=p1.1;clear b1 g1 r1;go_wp2_with fail;go_ret;exact ⟨_,T,rfl,HZ.out.1,HZ.out.2.1,HZ.out.2.2.1,fun y=>(HZ.out.2.2.2 y).trans (HI y)⟩
end
end Go.Proofs.YtamhnffokoejjaaGreatDoor
