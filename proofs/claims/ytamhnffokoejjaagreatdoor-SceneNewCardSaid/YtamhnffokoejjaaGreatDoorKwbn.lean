import Derived.Shelf.SlSortCmp.NoneTotal
import Derived.Lib.AppendZeros
import Derived.Deep.Upon
import Derived.Test.YtamhnffokoejjaaGreatDoorKwai
set_option linter.all false
set_option maxHeartbeats 6400000
set_option maxRecDepth 100000
namespace Go.Proofs.YtamhnffokoejjaaGreatDoor
open List(size_toArray any_eq_true length_append append_nil length_cons mem_cons not_mem_nil)
open Go.Proofs.Tryz
open Go.Shelf
def Wy:Go.Shelf.Ren:=⟨fun|6=>235|15=>264|14=>263|28=>288|29=>289|20=>280|21=>281|22=>282|23=>283|24=>284|25=>285|26=>286|27=>287|46=>300|47=>301|48=>302|49=>303|50=>304|57=>308|n=>n,fun|22=>152|24=>170|25=>280|3=>3|39=>230|0=>0|53=>269|55=>272|4=>4|46=>313|45=>312|50=>162|5=>5|9=>9|66=>322|70=>326|76=>330|77=>194|n=>n,fun|n=>n⟩
theorem Th:Go.Proofs.SlLaysF0.n6 prog Wy:={
 mixed:=AY
 f6:=⟨f235.name,by decide,func235.trans (congrArg some AY)⟩
 f14:=⟨f263.name,by decide,func263.trans (congrArg some AY)⟩
 f15:=func264.trans (congrArg some AY)
 f20:=⟨f280.name,by decide,func280.trans (congrArg some AY)⟩
 f21:=⟨f281.name,by decide,func281.trans (congrArg some AY)⟩
 f22:=⟨f282.name,by decide,func282.trans (congrArg some AY)⟩
 f23:=⟨f283.name,by decide,func283.trans (congrArg some AY)⟩
 f24:=⟨f284.name,by decide,func284.trans (congrArg some AY)⟩
 f25:=⟨f285.name,by decide,func285.trans (congrArg some AY)⟩
 f26:=⟨f286.name,by decide,func286.trans (congrArg some AY)⟩
 f27:=⟨f287.name,by decide,func287.trans (congrArg some AY)⟩
 f28:=func288.trans (congrArg some AY)
 f29:=func289.trans (congrArg some AY)
 f46:=⟨f300.name,by decide,func300.trans (congrArg some AY)⟩
 f47:=func301.trans (congrArg some AY)
 f48:=func302.trans (congrArg some AY)
 f49:=⟨f303.name,by decide,func303.trans (congrArg some AY)⟩
 f50:=⟨f304.name,by decide,func304.trans (congrArg some AY)⟩
 f57:=⟨f308.name,by decide,func308.trans (congrArg some AY)⟩
 t0:=underlying0
 a0:=isAgg0
 z0:=sizeOf0
 v0:=zeroValue0
 t3:=underlying3
 a3:=isAgg3
 z3:=sizeOf3
 v3:=zeroValue3
 t4:=underlying4
 a4:=isAgg4
 z4:=sizeOf4
 v4:=zeroValue4
 t5:=underlying5
 a5:=isAgg5
 z5:=sizeOf5
 v5:=zeroValue5
 t9:=underlying9
 a9:=isAgg9
 z9:=sizeOf9
 v9:=zeroValue9
 t22:=underlying152
 a22:=isAgg152
 z22:=sizeOf152
 v22:=zeroValue152
 t25:=underlying280
 a25:=isAgg280
 z25:=sizeOf280
 v25:=zeroValue280
 t39:=underlying230
 a39:=isAgg230
 z39:=sizeOf230
 v39:=zeroValue230
 t45:=underlying312
 a45:=isAgg312
 z45:=sizeOf312
 v45:=zeroValue312
 t46:=underlying313
 a46:=isAgg313
 z46:=sizeOf313
 v46:=zeroValue313
 t50:=underlying162
 a50:=isAgg162
 z50:=sizeOf162
 v50:=zeroValue162
 t53:=underlying269
 a53:=isAgg269
 z53:=sizeOf269
 v53:=zeroValue269
 t55:=underlying272
 a55:=isAgg272
 z55:=sizeOf272
 v55:=zeroValue272
 t66:=underlying322
 a66:=isAgg322
 z66:=sizeOf322
 v66:=zeroValue322
 t70:=underlying326
 a70:=isAgg326
 z70:=sizeOf326
 v70:=zeroValue326
 t76:=underlying330
 a76:=isAgg330
 z76:=sizeOf330
 v76:=zeroValue330
 t77:=underlying194
 a77:=isAgg194
 z77:=sizeOf194
 v77:=zeroValue194}
end Go.Proofs.YtamhnffokoejjaaGreatDoor
namespace Go.Proofs.YtamhnffokoejjaaGreatDoor
open List(size_toArray any_eq_true length_append append_nil length_cons mem_cons not_mem_nil)
open Go.Proofs.Tryz
open Go.RowKit Go.Sort Go.Shelf Go.Lib
section
variable{d:Array (Int × Int)}{os:Array Obj}{cur:Array Value}{g m:Nat}{w:World}
def Ni(x:Int × Int):List Value:=[.int .i64 x.1,.int .i64 x.2]
def rT(x y:Int × Int):Int:=XR x.1 y.1
theorem yR(x y:Int × Int):ltOf rT x y=decide (x.1<y.1):=by
 unfold ltOf rT XR;by_cases h1:x.1<y.1
 ·simp[h1]
 ·by_cases h2:y.1<x.1 <;> simp[h1,h2]
theorem X11:SWO (ltOf rT) where
 irrefl x:=by rw[yR];simp
 trans x y z h1 h2:=by rw[yR]at *;simp at *;omega
 ntrans x y z h1 h2:=by rw[yR]at *;simp at *;omega
theorem bO(x y:Int × Int)(W:World):Calls prog 236 #[.agg #[.int .i64 x.1,.int .i64 x.2],.agg #[.int .i64 y.1,.int .i64 y.2]] W fun e w'=>e=.returned (.int .i64 (rT x y))/\∃q os',w'=grow (W.drewN q) os':=by
 have cO:=fun W'=>VL x.1 y.1 W'
 unfold rT;generalize XR x.1 y.1=r at cO ⊢;go_enter func236,ntmps236;go_wp2_with (go_at_call 237;refine (cO _).mono ?_;rintro e w' ⟨rfl,rfl⟩)
 go_ret;exact ⟨rfl,0,_,by rw[alloc_eq_grow,alloc_eq_grow,grow_grow];rfl⟩
theorem UX(L:Array (Int × Int))(i:Nat)(h:i<L.size):(flatK Ni 2 L)[i*2]! =.int .i64 L[i].1/\(flatK Ni 2 L)[i*2+1]! =.int .i64 L[i].2:=by
 rw[get_flatK _ _ _ _ AD,get_flatK _ _ _ _ AD,show i*2/2=i by omega,show (i*2+1)/2=i by omega,show i*2%2=0 by omega,show (i*2+1)%2=1 by omega,getElem!_pos L i h];exact ⟨rfl,rfl⟩
theorem jx{L:Au}(hg:w.heap[g]?=some (.cells cur 170))(hc:Gi cur L):HoldsK Ni 2 w g 0 L.toArray:=by
 intro j hj;rw[size_flatK,size_toArray]at hj;have hk:j/2<L.length:=AD;obtain ⟨q0,q1⟩:=UX L.toArray (j/2) (by simpa using hk);refine ⟨?_,Bq hg _⟩;rw[AE hg,Nat.zero_add];rcases Nat.mod_two_eq_zero_or_one j with hm|hm
 ·have e:j=j/2*2:=AD;rw[e,(hc _ hk).1,q0];rfl
 ·have e:j=j/2*2+1:=AD;rw[e,(hc _ hk).2,q1];rfl
theorem Yb(hg:w.heap[g]?=some (.cells cur 170)):(sortWorldK Ni 2 w g 0 m d os).heap[g]?=some (.cells (putCells id 0 (flatK Ni 2 d) cur) 170):=by
 have BN:=As hg;unfold sortWorldK putRowK putRow;rw[heap_grow_old _ _ (by simpa[mapBlock,Sort.ahead] using BN)];unfold mapBlock;show (w.heap.modify g _)[g]?=_
 rw[Array.getElem?_modify,if_pos rfl,hg];rfl
theorem Zp(hs:d.size*2<=cur.size):(putCells id 0 (flatK Ni 2 d) cur).size=cur.size/\Gi (putCells id 0 (flatK Ni 2 d) cur) d.toList:=by
 have hg:∀k,k<d.size*2->(putCells id 0 (flatK Ni 2 d) cur)[k]?=some (flatK Ni 2 d)[k]! :=by
  intro k hk;unfold putCells;rw[Array.getElem?_mapIdx,Array.getElem?_eq_getElem AD,Option.map_some,if_pos ⟨Nat.zero_le _,by rw[size_flatK];omega⟩];rfl
 refine ⟨by simp[putCells],fun i hi=>?_⟩;have hi':i<d.size:=by simpa using hi
 obtain ⟨q0,q1⟩:=UX d i hi';rw[hg _ AD,hg _ AD,q0,q1];exact ⟨rfl,rfl⟩
theorem X3{W:World}(h:AA W w)(fT:W.heap.size<=g):AA W (sortWorldK Ni 2 w g 0 m d os):=by
 have hb:=h.below;refine .of ⟨hb.os,hb.tape,hb.output,?_,fun k hk=>?_⟩
 ·have:=hb.size
  unfold sortWorldK putRowK putRow;rw[size_grow];simp only[mapBlock,Sort.ahead,Array.size_modify];omega
 ·have Gh:k<w.heap.size:=Nat.lt_of_lt_of_le hk hb.size;rw[<-hb.block k hk];unfold sortWorldK putRowK putRow;rw[heap_grow_old _ _ (by simpa[mapBlock,Sort.ahead] using Gh)];unfold mapBlock;show (w.heap.modify g _)[k]?=_
  rw[Array.getElem?_modify,if_neg AD]
theorem gD(g cap:Nat)(cur:Array Value)(L:Au)(W w:World)(hW:AA W w)(fT:W.heap.size<=g)(hg:w.heap[g]?=some (.cells cur 170))(hs:L.length*2<=cur.size)(hc:Gi cur L)(hn:L.length<=100000):
 Calls prog 235 #[.slice (some ⟨g,0,none⟩) L.length cap,.func (.func 236) #[] #[]] w fun e w'=>e=.returned (.tuple #[])/\∃cur' L',AA W w'/\w'.heap[g]?=some (.cells cur' 170)/\cur'.size=cur.size/\Gi cur' L'/\L'.Perm L/\UA L':=by
 have eg:∀args w,(callFunc 236 args).run prog w=.ok (.enter 236 args) w:=enters_of func236 AY rfl;have hcm:CmpLays prog 236 #[] Ni 2 rT g 0 L.toArray.size w:=fun _ _ _ _ x y=>bO x y _
 have cO:=AnyQ.slices_SortFunc Th 2 isAgg170 sizeOf170 Ni (fun _=>rfl) (fun x v hv=>by simp[Ni]at hv;rcases hv with rfl|rfl <;> rfl) rT X11 236 #[] g 0 cap L.toArray w eg hcm (jx hg hc) (As hg) (by simp;omega)
 change Calls prog 235 _ _ _ at cO
 rw[size_toArray]at cO;refine cO.mono ?_;rintro e w' ⟨rfl,d,m,os,hp,hso,rfl⟩;obtain ⟨p1,_,p3⟩:=hp;have p5:d.size=L.length:=by rw[p1,size_toArray]
 have p4:d.extract 0 L.length=d:=by rw[<-p5];simp
 rw[p4]at p3;obtain ⟨q1,q2⟩:=Zp (cur:=cur) (d:=d) AD;refine ⟨rfl,_,d.toList,X3 hW fT,Yb hg,q1,q2,by simpa using p3,fun i j hj Fr=>?_⟩;have Gw:j<d.size:=by simpa using hj
 have:=hso i j (Nat.zero_le _) Fr AD
 rw[yR,getElem!_pos d i AD,getElem!_pos d j Gw]at this;simpa using this
end
end Go.Proofs.YtamhnffokoejjaaGreatDoor
namespace Go.Proofs.YtamhnffokoejjaaGreatDoor
open List(size_toArray any_eq_true length_append append_nil length_cons mem_cons not_mem_nil)
open Go.Proofs.Tryz
open Go.RowKit
section
variable{B j:Nat}{v:Value}{w:World}
def Ee(h:Int × Int->Int × Int)(l:Au):Au:=(l.map fun b=>h (D5 b)).filter fun c=>decide (c.1<c.2)
theorem ZU{h:Int × Int->Int × Int}{l:Au}(hj:j<l.length):Ee h (l.take (j+1))=Ee h (l.take j)++(if (h (D5 l[j])).1<(h (D5 l[j])).2 then [h (D5 l[j])] else []):=by
 unfold Ee;rw[List.take_succ_eq_append_getElem hj,List.map_append,List.filter_append]
 congr 1
 rw[List.map_cons,List.map_nil,List.filter_cons,List.filter_nil];split <;> split <;> simp_all
theorem Sh(h:Int × Int->Int × Int)(l:Au):(Ee h l).length<=l.length:=by
 unfold Ee;exact Nat.le_trans (List.length_filter_le _ _) (by rw[List.length_map];exact Nat.le_refl _)
theorem Pn{h:Int × Int->Int × Int}(hin:∀b,-1073741824<=(h (D5 b)).1/\(h (D5 b)).2<=1073741824)(l:Au):Full (Ee h l):=by
 intro c hc;obtain ⟨h1,h2⟩:=List.mem_filter.1 hc;obtain ⟨b,_,rfl⟩:=List.mem_map.1 h1;have:=hin b
 have:=of_decide_eq_true h2
 omega
theorem Ym{h:Int × Int->Int × Int}(hin:∀b,-1073741824<=(h (D5 b)).1/\(h (D5 b)).2<=1073741824)(l:Au)(y:Int):C9 (Ee h l) y=l.any fun b=>decide ((h (D5 b)).1<=y/\y<(h (D5 b)).2):=by
 rw[lW (Pn hin l),Bool.eq_iff_iff,any_eq_true,any_eq_true];constructor
 ·rintro ⟨c,hc,hy⟩;obtain ⟨h1,h2⟩:=List.mem_filter.1 hc;obtain ⟨b,hb,rfl⟩:=List.mem_map.1 h1;exact ⟨b,hb,hy⟩
 ·rintro ⟨b,hb,hy⟩;have:=of_decide_eq_true hy
  exact ⟨_,List.mem_filter.2 ⟨List.mem_map.2 ⟨b,hb,rfl⟩,decide_eq_true AD⟩,hy⟩
theorem iy{A B:Au}(h:A.Perm B)(y:Int):C9 A y=C9 B y:=by
 unfold C9;rw[Bool.eq_iff_iff,any_eq_true,any_eq_true];exact ⟨fun ⟨b,hb,hy⟩=>⟨b,h.mem_iff.1 hb,hy⟩,fun ⟨b,hb,hy⟩=>⟨b,h.mem_iff.2 hb,hy⟩⟩
theorem PX(w:World):Calls prog 238 #[.slice none 0 0] w fun e w'=>e=.returned (.slice none 0 0)/\w=w':=by
 go_enter func238,ntmps238;go_wp2_with fail;refine wp_loop_rounds 1 ?_;rw[rounds_succ];go_wp2_with fail;go_ret;exact ⟨rfl,rfl⟩
def ZI(W:World)(K:Au)(e:Ending)(w':World):Prop:=∃v T,e=.returned v/\AA W w'/\OB w' W.heap.size v T/\CK T/\∀y,C9 T y=C9 K y
def kQ(w:World)(gc:Nat)(cb:Array Value)(h:Int × Int->Int × Int):Prop:=∀(b1 b2:Int),(-1073741824<=b1/\b1<=1073741824/\ -1073741824<=b2/\b2<=1073741824)->∀w',AA w w'->
 Calls prog gc (#[.agg #[.int .i64 b1,.int .i64 b2]]++cb) w' fun e Bg=>e=.returned (.agg #[.int .i64 (h (b1,b2)).1,.int .i64 (h (b1,b2)).2])/\AA w' Bg
theorem T4(b off n cap gc:Nat)(cb:Array Value)(h:Int × Int->Int × Int)(l:Au)(w:World)(hl:l.length=n)(h0:0<n)(hn:n<=100000)(hb:b<w.heap.size)(hc:∀(j:Nat) (h:j<l.length),w.cell? ⟨b,off+j*2,none⟩=some (.int .i64 l[j].1)/\w.cell? ⟨b,off+j*2+1,none⟩=some (.int .i64 l[j].2))
 (hin:∀b,-1073741824<=(h (D5 b)).1/\(h (D5 b)).2<=1073741824) (Q8:∀args w,(callFunc gc args).run prog w=.ok (.enter gc args) w) (WD:kQ w gc cb h):
 Calls prog 192 #[.slice (some ⟨b,off,none⟩) n cap,.func (.func gc) #[] cb] w (ZI w (Ee h l)):=by
 obtain ⟨i0,Gv,JM,Ie,JN⟩:=info_parts Iy;have HL:=AC hl;have HC:=AC hc;have HI:=AC hin;have HD:=AC WD;clear hl hc hin WD;go_enter func192,ntmps192;go_wp2_with fail;go_loopg [5,11] n (fun k v i wr=>∃j:Nat,k=n-j/\j<=n/\i=.int .i64 j/\AA w wr/\OB wr w.heap.size v (Ee h (l.take j)))
 case atStart=>exact ⟨0,AD,AD,rfl,AA.refl w,⟨rfl,.inl ⟨rfl,rfl⟩⟩⟩
 case round=>
  obtain ⟨j,hk,hj,rfl,AW,ho⟩:=hrel;have HO:=AC ho;clear ho;by_cases BN:j<n
  ·have lj:j<l.length:=by rw[HL.out];exact BN
   have c0:wr.cell? ⟨b,off+j*2,none⟩=some (.int .i64 l[j].1):=(AW.below.cell hb).trans (HC j lj).1;have c1:wr.cell? ⟨b,off+j*2+1,none⟩=some (.int .i64 l[j].2):=(AW.below.cell hb).trans (HC j lj).2;have HT:=AC (ZU (h:=h) lj);have Dw:Hid ((Ee h (l.take j)).length<=100000):=AC (by have:=Sh h (l.take j);rw[List.length_take]at this;omega);generalize l[j]=x at *;obtain ⟨f,t⟩:=x;simp only at c0 c1
   obtain ⟨r1,xU⟩:∃r,TY f (-1073741824) 1073741824=r:=⟨_,rfl⟩;obtain ⟨r2,oU⟩:∃r,TY t (-1073741824) 1073741824=r:=⟨_,rfl⟩;have he:D5 (f,t)=(r1,r2):=by unfold D5 Q9;rw[xU,oU]
   have hri:=aP (f,t);rw[he]at hri HT;have HR:=AC (And.intro xU (And.intro oU hri));obtain ⟨y1,uc⟩:∃r,(h (r1,r2)).1=r:=⟨_,rfl⟩;obtain ⟨y2,uI⟩:∃r,(h (r1,r2)).2=r:=⟨_,rfl⟩;have hy:h (r1,r2)=(y1,y2):=Prod.ext uc uI;rw[hy]at HT;have HY:=AC hy;clear xU oU he hri uc uI hy;go_wp2_with fail;refine AQ (fun wS=>AA wr wS/\wS.heap[wr.heap.size]?=some (.cells #[.int .i64 f,.int .i64 t] 170)) ⟨BQ,CG⟩ ?_;rintro w1 ⟨AJ,AH⟩;have AG:=AW.trans AJ;refine (Qf f t _ _ r1 r2 w1 HR.out.1 HR.out.2.1).mono ?_;rintro e w2 ⟨rfl,AL⟩;have AR:=AG.trans AL;go_wp2_with fail;have Rd:=AC (HD r1 r2 HR.out.2.2 w2 AR);rw[HY.out]at Rd;refine (Rd.out).mono ?_;rintro e w3 ⟨rfl,AX⟩;have An:=AR.trans AX;go_wp2_with fail
   first|refine BW (fun wS=>AA w3 wS/\wS.heap[w3.heap.size]?=some (.cells #[.int .i64 y1,.int .i64 y2] 170)) ⟨BQ,CG⟩ ?_|refine AQ (fun wS=>AA w3 wS/\wS.heap[w3.heap.size]?=some (.cells #[.int .i64 y1,.int .i64 y2] 170)) ⟨BQ,CG⟩ ?_
   rintro w4 ⟨Ao,CE⟩;have Bl:=An.trans Ao;by_cases hf:y1<y2
   ·have ee:decide (y1<y2)=true:=decide_eq_true hf;refine (Jc y1 y2 w4 true ee).mono ?_;rintro e w5 ⟨rfl,Bd⟩;have DW:=Bl.trans Bd;have J2:=AB Bd CE;have k_:=AE J2;have oR:=AC ((HO.out.later ((AJ.trans AL).trans (AX.trans (Ao.trans Bd)))).later ((AA.refl w5).alloc (.cells #[.int .i64 y1,.int .i64 y2] 170)));have dy:=AC (World.news_of_block (w:=w5.alloc (.cells #[.int .i64 y1,.int .i64 y2] 170)) (cs:= #[.int .i64 y1,.int .i64 y2]) (t:=170) (fr:=(0,0)) (Ae rfl));have HB:Hid ((Ee h (l.take j)).length+1<=maxLen/\((Ee h (l.take j)).length+1)*16<=140737488355328/\w.heap.size<=(w5.alloc (.cells #[.int .i64 y1,.int .i64 y2] 170)).heap.size):=AC ⟨by have:=Dw.out;unfold maxLen;omega,by have:=Dw.out;omega,(DW.alloc _).below.size⟩;have HS:Hid (Ee h (l.take (j+1))=Ee h (l.take j)++[(y1,y2)]):=AC (by rw[HT.out,if_pos hf]);have aH:=AC (And.intro (DW.alloc (.cells #[.int .i64 y1,.int .i64 y2] 170)) (DI HO.out));clear HT hf ee;go_wp2_with (at_builtin;refine wpList_append_own _ rfl _ _ 152 rfl w.heap.size 170 i0 (.agg #[.int .i64 0,.int .i64 0]) 2 16 underlying152 Gv JM Ie JN rfl (by decide) _ (Ee h (l.take j)).length (Da (Ee h (l.take j))) rfl oR ⟨w5.heap.size,0,none⟩ 1 1 [.int .i64 y1,.int .i64 y2] rfl rfl dy (by simp[Value.oneCell']) HB.out.1 HB.out.2.1 HB.out.2.2 ?_;intro v' w6 KP J4 ZJ;have S:Hid (AA w w6/\OB w6 w.heap.size v' (Ee h (l.take (j+1)))):=AC ⟨CP aH.out.1 J4 aH.out.2,by rw[HS.out];unfold OB;rw[length_append,Fa];exact KP⟩;clear KP J4 ZJ)
    go_roundg (n-(j+1))
    case measure=>omega
    case rel=>exact ⟨j+1,rfl,BN,by go_num,S.out⟩
   ·have ee:decide (y1<y2)=false:=decide_eq_false hf;refine (Jc y1 y2 w4 false ee).mono ?_;rintro e w5 ⟨rfl,Bd⟩;have DW:=Bl.trans Bd;have J2:=AB Bd CE;have k_:=AE J2;have HS:Hid (Ee h (l.take (j+1))=Ee h (l.take j)):=AC (by rw[HT.out,if_neg hf,append_nil]);have oR:=AC (HO.out.later ((AJ.trans AL).trans (AX.trans (Ao.trans Bd))));clear HT hf ee;go_wp2_with fail;go_roundg (n-(j+1))
    case measure=>omega
    case rel=>exact ⟨j+1,rfl,BN,by go_num,DW,by rw[HS.out];exact oR.out⟩
  ·obtain rfl:j=n:=AD
   have ho:=HO.out;have ht:l.take j=l:=List.take_of_length_le (Nat.le_of_eq HL.out);rw[ht]at ho;have HF:=AC (And.intro (Pn HI l) (Sh h l));generalize Ee h l=K at *;clear HO ht;rcases ho.2 with ⟨rfl,vt⟩|⟨gb,BP,cur,rfl,q1,q2,q3,q4,q5,q6⟩
   ·have HK:Hid (K=[]):=AC (List.eq_nil_of_length_eq_zero vt);clear ho;go_wp2_with fail;refine (AnyF.slices_SortFunc_none Th none 0 _ wr).mono ?_;rintro e w' ⟨rfl,rfl⟩;go_wp2_with fail;refine (PX _).mono ?_;rintro e w' ⟨rfl,rfl⟩;go_wp2_with fail;go_ret;exact ⟨_,[],rfl,AW,⟨rfl,.inl ⟨rfl,rfl⟩⟩,CK.nil,fun y=>by rw[HK.out]⟩
   ·have HQ:=AC (And.intro q1 (And.intro q4 q5));have hcu:=Gi.oC q6;have hle:K.length<=100000:=by have:=HF.out.2;have:=HL.out;omega
    have HS:=AC (gD gb BP cur K w wr AW q1 q2 (by rw[q5];omega) hcu hle);clear ho q1 q2 q4 q5 q6 hcu;go_wp2_with fail;refine HS.out.mono ?_;rintro e w1 ⟨rfl,J10,L,AG,AH,k1,k2,k3,k4⟩;have HK:=AC (And.intro k1 (And.intro k2 (And.intro k3 k4)));have HP:Hid (L.length=K.length):=AC k3.length_eq;clear k1 k2 k3 k4 HS;go_wp2_with fail;refine (UP gb K.length BP J10 L w w1 AG HQ.out.1 AH HP hle q3 HQ.out.2.1 (by rw[HK.out.1,HQ.out.2.2]) HK.out.2.1 (fun c hc=>HF.out.1 c (HK.out.2.2.1.mem_iff.1 hc)) HK.out.2.2.2).mono ?_;rintro e w2 ⟨v,T,rfl,AR,o2,g2,r2⟩;have HE:=AC (And.intro o2 (And.intro g2 r2));clear o2 g2 r2;go_wp2_with fail;go_ret;exact ⟨_,T,rfl,AR,HE.out.1,HE.out.2.1,fun y=>(HE.out.2.2 y).trans (iy HK.out.2.2.1 y)⟩
theorem TM(A:Option Addr)(cap gc:Nat)(cb:Array Value)(w:World):
 Calls prog 192 #[.slice A 0 cap,.func (.func gc) #[] cb] w (ZI w []):=by
 go_enter func192,ntmps192;go_wp2_with fail;refine wp_loop_rounds 1 ?_;rw[rounds_succ];go_wp2_with fail;refine (AnyF.slices_SortFunc_none Th none 0 _ w).mono ?_;rintro e w' ⟨rfl,rfl⟩;go_wp2_with fail;refine (PX _).mono ?_;rintro e w' ⟨rfl,rfl⟩;go_wp2_with fail;go_ret;exact ⟨_,[],rfl,AA.refl _,⟨rfl,.inl ⟨rfl,rfl⟩⟩,CK.nil,fun y=>rfl⟩
theorem Ui(v:Value)(gc:Nat)(cb:Array Value)(h:Int × Int->Int × Int)(l:Au)(w:World)(hr:RB w v l)(hn:l.length<=100000)
 (hin:∀b,-1073741824<=(h (D5 b)).1/\(h (D5 b)).2<=1073741824) (Q8:∀args w,(callFunc gc args).run prog w=.ok (.enter gc args) w) (WD:kQ w gc cb h):
 Calls prog 192 #[v,.func (.func gc) #[] cb] w (ZI w (Ee h l)):=by
 obtain ⟨A,cap,rfl,h2,h3⟩:=hr;rcases Nat.eq_zero_or_pos l.length with h0|h0
 ·obtain rfl:=List.eq_nil_of_length_eq_zero h0
  exact TM A cap gc cb w
 ·obtain ⟨b,off,rfl,hb,hc⟩:=h3 h0;exact T4 b off _ cap gc cb h l w rfl h0 hn hb hc hin Q8 WD
theorem XS(w:World):kQ w 193 #[] id:=fun b1 b2 _ w' _=>fy b1 b2 w'
theorem TC(v:Value)(l:Au)(w:World)(hr:RB w v l)(hn:l.length<=100000):Calls prog 152 #[v] w (SZ w (C9 l)):=by
 have Q8:∀args w,(callFunc 193 args).run prog w=.ok (.enter 193 args) w:=enters_of func193 AY rfl;have hin:∀b,-1073741824<=(id (D5 b)).1/\(id (D5 b)).2<=1073741824:=fun b=>by have:=aP b;exact ⟨this.1,this.2.2.2⟩
 have hq:∀y,C9 (Ee id l) y=C9 l y:=fun y=>by
  rw[Ym hin];unfold C9
  congr 1
  funext b
  rw[decide_eq_decide];exact fB b y
 have H:=AC (Ui v _ #[] id l w hr hn hin Q8 (XS w));have HQ:=AC hq;clear hr hin Q8 hq;go_enter func152,ntmps152;go_wp2_with fail;refine H.out.mono ?_;rintro e w1 ⟨v1,T,rfl,AG,o1,g1,r1⟩;have HE:=AC (And.intro o1.yu (And.intro g1 r1));clear o1 g1 r1;go_wp2_with fail;go_ret;exact ⟨_,T,rfl,AG,HE.out.1,HE.out.2.1,fun y=>(HE.out.2.2 y).trans (HQ y)⟩
theorem Qw(v:Value)(l:Au)(w:World)(hr:RB w v l)(hn:l.length<=100000):Calls prog 152 #[v] w (x_ w (C9 l)):=(TC v l w hr hn).mono fun _ _ h=>h.told
theorem f7{T l:Au}(hg:CK T)(hr:∀y,C9 T y=C9 l y)(hn:l.length<=5000):T.length<=5001:=by have:=O0 hg hr;omega
theorem Na{v2:Value}{l l2:Au}(ty:TypeId)(hB:B<=w.heap.size)(ho:OB w B v l)(hr:RB w v2 l2)(hn:l.length+l2.length<=200000):
 ∃v' w',(Builtin.append_ #[152,152] ty #[v,v2]).run prog w=.ok v' w'/\OB w' B v' (l++l2)/\∀W,AA W w->W.heap.size<=B->AA W w':=by
 obtain ⟨i0,Gv,JM,Ie,JN⟩:=info_parts Iy;obtain ⟨A,cap,rfl,h2,h3⟩:=hr;rcases Nat.eq_zero_or_pos l2.length with h0|h0
 ·obtain rfl:=List.eq_nil_of_length_eq_zero h0
  cases A with
  |none=>
   have hs:=Src.ofNil (P:=prog) w (size:=i0.size) underlying152 cap;obtain ⟨a0,c0,hv,hle⟩:∃a0 c0,v=.slice a0 l.length c0/\l.length<=c0:=by
    rcases ho.2 with ⟨rfl,hk⟩|⟨g,c,cur,rfl,_,_,q,_⟩
    ·exact ⟨none,0,by rw[hk],AD⟩
    ·exact ⟨_,c,rfl,q⟩
   refine ⟨v,w,?_,by rw[append_nil];exact ho,fun W h _=>h⟩;subst hv;exact run_append_nothing (P:=prog) w 152 152 ty 170 i0 underlying152 Gv a0 _ c0 hle _ hs
  |some ad=>
   obtain ⟨v',w',k1,k2,k3,_⟩:=run_append_own (P:=prog) w B 152 ty 170 i0 (.agg #[.int .i64 0,.int .i64 0]) 2 16 underlying152 Gv JM Ie JN rfl (by decide) v l.length (Da l) ho ad 0 cap [] rfl Ar Ar (by unfold maxLen;simp at hn;omega) (by simp at hn;omega) hB;exact ⟨v',w',k1,by unfold OB;rw[append_nil];simpa using k2,fun W h hW=>CP h k3 (fun k hk=>Nat.le_trans hW (DI ho k hk))⟩
 ·obtain ⟨b,off,rfl,hb,hc⟩:=h3 h0;obtain ⟨v',w',k1,k2,k3,_⟩:=run_append_own (P:=prog) w B 152 ty 170 i0 (.agg #[.int .i64 0,.int .i64 0]) 2 16 underlying152 Gv JM Ie JN rfl (by decide) v l.length (Da l) ho ⟨b,off,none⟩ l2.length cap (Da l2) (FY l2) (RB.cells (AA.refl w) (fun _=>hb) hc) (cX l2) (by unfold maxLen;omega) AD hB;exact ⟨v',w',k1,by unfold OB;rw[length_append,Fa];exact k2,fun W h hW=>CP h k3 (fun k hk=>Nat.le_trans hW (DI ho k hk))⟩
theorem Y1{T:Au}(hj:j<T.length)(f:Int):GO f (T.drop j)=(f,T[j].1)::GO T[j].2 (T.drop (j+1)):=by
 rw[List.drop_eq_getElem_cons hj,GO]
theorem ms{l:Au}(o:OB w B v l){k:Nat}(h:w.heap.size<=k):v.ownBlock≠some k:=by
 rcases o.2 with ⟨rfl,_⟩|⟨g,cap,cur,rfl,h2,h3,_⟩
 ·intro e;cases e
 ·intro e;obtain rfl:g=k:=by simpa[Value.ownBlock] using e
  have:=As h3
  omega
theorem lx(v:Value)(l:Au)(w:World)(hr:RB w v l)(hn:l.length<=5000):
 Calls prog 154 #[v] w fun e w'=>∃v' T,e=.returned v'/\AA w w'/\RB w' v' (GO (-1073741824) T)/\CK T/\∀y,C9 T y=C9 l y:=by
 obtain ⟨i0,Gv,JM,Ie,JN⟩:=info_parts Iy;have H:=AC (Qw v l w hr AD);have HN0:=AC hn;clear hr hn;go_enter func154,ntmps154;go_wp2_with fail;refine H.out.mono ?_;rintro e w1 ⟨v1,T,rfl,AG,hr,hg,hy⟩;have HT:=AC (And.intro hg (And.intro hy (f7 hg hy HN0.out)));obtain ⟨A,cap,rfl,h2,h3⟩:=hr;obtain ⟨n,hn⟩:=BZ (T.length);have HN:=AC hn;have kn:n<=5001:=by rw[<-hn];exact HT.out.2.2
 have H3:=AC h3;rw[hn];clear hy hg H h2 h3 hn;go_wp2_with fail;go_loopg [3,4,10] n (fun k v fr i wr=>∃(j:Nat) (f:Int) (K:Au),k=n-j/\j<=n/\i=.int .i64 j/\fr=.int .i64 f/\AA w1 wr/\OB wr w1.heap.size v K/\K.length=j/\K++GO f (T.drop j)=GO (-1073741824) T)
 case atStart=>exact ⟨0,-1073741824,[],AD,AD,rfl,rfl,AA.refl _,⟨rfl,.inl ⟨rfl,rfl⟩⟩,rfl,rfl⟩
 case round=>
  obtain ⟨j,fr,K,hk,hj,rfl,rfl,EW,ho,hKl,hK⟩:=hrel;by_cases BN:j<n
  ·have lj:j<T.length:=by rw[HN.out];exact BN
   obtain ⟨b,off,rfl,hb,hc⟩:=H3 AD;have c0:wr.cell? ⟨b,off+j*2,none⟩=some (.int .i64 T[j].1):=(EW.below.cell hb).trans (hc j lj).1;have c1:wr.cell? ⟨b,off+j*2+1,none⟩=some (.int .i64 T[j].2):=(EW.below.cell hb).trans (hc j lj).2;have hd:=Y1 lj fr;rw[hd]at hK;clear hd hc;generalize T[j]=x at *;obtain ⟨f,t⟩:=x;simp only at c0 c1 hK
   have HK:Hid ((K++[(fr,f)]).length=j+1/\(K++[(fr,f)])++GO t (T.drop (j+1))=GO (-1073741824) T):=AC ⟨by rw[length_append,hKl];rfl,by rw[<-hK,List.append_assoc];rfl⟩;have aH:=AC (And.intro ((EW.alloc (.cells #[.int .i64 f,.int .i64 t] 170)).alloc (.cells #[.int .i64 fr,.int .i64 f] 170)) (DI ho));have HNE:=AC (ms ho (Nat.le_refl _));have HO:=AC (ho.later (((AA.refl wr).alloc (.cells #[.int .i64 f,.int .i64 t] 170)).alloc (.cells #[.int .i64 fr,.int .i64 f] 170)));have dy:=AC (World.news_of_block (B:=wr.heap.size+1) (w:=(wr.alloc (.cells #[.int .i64 f,.int .i64 t] 170)).alloc (.cells #[.int .i64 fr,.int .i64 f] 170)) (cs:= #[.int .i64 fr,.int .i64 f]) (t:=170) (fr:=(0,0)) (Ae Ar));have py:Hid (((wr.alloc (.cells #[.int .i64 f,.int .i64 t] 170)).alloc (.cells #[.int .i64 fr,.int .i64 f] 170)).heap[wr.heap.size]?=some (.cells #[.int .i64 f,.int .i64 t] 170)):=AC (I4 Ar (Ae rfl));have HB:Hid (K.length+1<=maxLen/\(K.length+1)*16<=140737488355328/\w1.heap.size<=((wr.alloc (.cells #[.int .i64 f,.int .i64 t] 170)).alloc (.cells #[.int .i64 fr,.int .i64 f] 170)).heap.size):=AC ⟨by unfold maxLen;omega,AD,aH.out.1.below.size⟩;clear hK hKl ho;go_wp2_with (at_builtin;refine wpList_append_own _ rfl _ _ 152 rfl w1.heap.size 170 i0 (.agg #[.int .i64 0,.int .i64 0]) 2 16 underlying152 Gv JM Ie JN rfl (by decide) _ K.length (Da K) rfl HO ⟨wr.heap.size+1,0,none⟩ 1 1 [.int .i64 fr,.int .i64 f] rfl rfl dy (by simp[Value.oneCell']) HB.out.1 HB.out.2.1 HB.out.2.2 ?_;intro v' w6 KP J4 ZJ;have S:Hid (AA w1 w6/\OB w6 w1.heap.size v' (K++[(fr,f)])):=AC ⟨CP aH.out.1 J4 aH.out.2,by unfold OB;rw[length_append,Fa];exact KP⟩;have Ty:=AE (FF J4 py HNE.out);clear KP J4 ZJ)
   go_roundg (n-(j+1))
   case measure=>omega
   case rel=>exact ⟨j+1,t,K++[(fr,f)],rfl,BN,by go_num,rfl,S.out.1,S.out.2,HK.out.1,HK.out.2⟩
  ·obtain rfl:j=n:=AD
   have HK:Hid (K++[(fr,1073741824)]=GO (-1073741824) T):=AC (by rw[<-hK,List.drop_of_length_le (Nat.le_of_eq HN.out)];rfl);have aH:=AC (And.intro (EW.alloc (.cells #[.int .i64 fr,.int .i64 1073741824] 170)) (DI ho));have HO:=AC (ho.later ((AA.refl wr).alloc (.cells #[.int .i64 fr,.int .i64 1073741824] 170)));have dy:=AC (World.news_of_block (w:=wr.alloc (.cells #[.int .i64 fr,.int .i64 1073741824] 170)) (cs:= #[.int .i64 fr,.int .i64 1073741824]) (t:=170) (fr:=(0,0)) (Ae rfl));have HB:Hid (K.length+1<=maxLen/\(K.length+1)*16<=140737488355328/\w1.heap.size<=(wr.alloc (.cells #[.int .i64 fr,.int .i64 1073741824] 170)).heap.size):=AC ⟨by unfold maxLen;omega,AD,aH.out.1.below.size⟩;clear hK hKl ho;go_wp2_with (at_builtin;refine wpList_append_own _ rfl _ _ 152 rfl w1.heap.size 170 i0 (.agg #[.int .i64 0,.int .i64 0]) 2 16 underlying152 Gv JM Ie JN rfl (by decide) _ K.length (Da K) rfl HO ⟨wr.heap.size,0,none⟩ 1 1 [.int .i64 fr,.int .i64 1073741824] rfl rfl dy (by simp[Value.oneCell']) HB.out.1 HB.out.2.1 HB.out.2.2 ?_;intro v' w6 KP J4 ZJ;have S:Hid (AA w1 w6/\OB w6 w1.heap.size v' (K++[(fr,1073741824)])):=AC ⟨CP aH.out.1 J4 aH.out.2,by unfold OB;rw[length_append,Fa];exact KP⟩;clear KP J4 ZJ)
   go_ret;exact ⟨_,rfl,AG.trans S.out.1,T,by rw[<-HK.out];exact S.out.2.reads,HT.out.1,HT.out.2.1⟩
theorem O8{b off n cap:Nat}{x:Int × Int}{A:Au}(h:RB w (.slice (some ⟨b,off,none⟩) (n+1) cap) (x::A))(hn:A.length=n){A2:Option Addr}{c2:Nat}(D4:c2=cap-1)(hA:cap≠1->A2=some ⟨b,off+2,none⟩):RB w (.slice A2 n c2) A:=by
 obtain ⟨A0,c0,e,p1,p2⟩:=h;cases e;simp only[length_cons]at p1 p2;subst D4;refine ⟨A2,cap-1,by rw[hn],AD,fun h0=>?_⟩;obtain ⟨b1,Q12,e,hb,hc⟩:=p2 AD;cases e;refine ⟨b,off+2,hA AD,hb,fun j hj=>?_⟩;have:=hc (j+1) AD
 simp only[List.getElem_cons_succ]at this;rw[show off+2+j*2=off+(j+1)*2 by omega];exact this
theorem Sx(v v2:Value)(l l2:Au)(w:World)(h:RB w v l)(h2:RB w v2 l2)(hn:l.length<=5000)(Fx:l2.length<=5010):Calls prog 125 #[v,v2] w (SZ w fun y=>C9 l y && C9 l2 y):=by
 obtain ⟨i0,Gv,JM,Ie,JN⟩:=info_parts Iy;have H1:=AC (Qw v l w h AD);have H2:=AC (And.intro h2 (And.intro hn Fx));clear h h2 hn Fx;go_enter func125,ntmps125;go_wp2_with fail;refine H1.out.mono ?_;rintro e w1 ⟨va,TA,rfl,AG,ra,ga,ya⟩;have H3:=AC (And.intro ra (And.intro ga ya));have H4:=AC (Qw v2 l2 w1 (H2.out.1.later AG) (by have:=H2.out;omega));clear ra ga ya;go_wp2_with fail;refine H4.out.mono ?_;rintro e w2 ⟨vb,TB,rfl,AL,rb,gb,yb⟩;have H5:=AC (And.intro (H3.out.1.later AL) rb);obtain ⟨hG,hR⟩:=Ma _ TA TB (Nat.le_refl _) H3.out.2.1 gb;have HL:Hid ((Dl TA TB).length<=20000):=AC (by
  have:=Nx _ TA TB (Nat.le_refl _)
  have:=O0 H3.out.2.1 H3.out.2.2
  have:=O0 gb yb
  have:=H2.out
  omega)
 have HM:Hid (CK (Dl TA TB)/\∀y,C9 (Dl TA TB) y=(C9 l y && C9 l2 y)):=AC ⟨hG,fun y=>by rw[hR,H3.out.2.2,yb]⟩;have HW:=AC (AG.trans AL);clear rb gb yb hG hR H4;go_wp2_with fail;go_loopg [0,1,5] (TA.length+TB.length) (fun k a b v wr=>∃A B K:Au,k=A.length+B.length/\AA w2 wr/\RB w2 a A/\RB w2 b B/\OB wr w2.heap.size v K/\K++Dl A B=Dl TA TB)
 case atStart=>exact ⟨TA,TB,[],rfl,AA.refl _,H5.out.1,H5.out.2,⟨rfl,.inl ⟨rfl,rfl⟩⟩,rfl⟩
 case round=>
  obtain ⟨A,B,K,hk,AW,hA,hB,ho,hK⟩:=hrel;have HA:=AC hA;have HB:=AC hB;obtain ⟨A0,ca,rfl,p1,p2⟩:=hA;obtain ⟨B0,cb,rfl,q1,q2⟩:=hB;have HO:=AC ho;have HK:=AC hK;have HKL:Hid (K.length+1<=20001):=AC (by have:=HL.out;rw[<-hK,length_append]at this;omega);clear ho hK
  cases A with
  |nil=>
   simp only[List.length_nil];go_wp2_with fail;go_ret;exact ⟨_,_,rfl,HW.out.trans AW,HO.out.yu,by
    have e:=HK.out;rw[Nf,append_nil]at e;rw[e];exact HM.out⟩
  |cons x A1=>
   have k1:(0:Int)<(A1.length:Int)+1:=AD
   cases B with
   |nil=>
    simp only[List.length_nil,length_cons];go_wp2_with fail;go_ret;exact ⟨_,_,rfl,HW.out.trans AW,HO.out.yu,by
     have e:=HK.out;rw[MJ,append_nil]at e;rw[e];exact HM.out⟩
   |cons y B1=>
    have k2:(0:Int)<(B1.length:Int)+1:=AD;obtain ⟨b1,Q12,rfl,Iz,Om⟩:=p2 Ar;obtain ⟨b2,Km,rfl,Hr,D4⟩:=q2 Ar;obtain ⟨ie,U3⟩:=Om 0 Ar;obtain ⟨pX,aY⟩:=D4 0 Ar;obtain ⟨x1,x2⟩:=x;obtain ⟨y1,y2⟩:=y;simp only[Nat.zero_mul,Nat.add_zero,List.getElem_cons_zero]at ie U3 pX aY;simp only[length_cons]at p1 q1 hk ⊢;have HS:=AC (ME (x1,x2) (y1,y2) A1 B1);obtain ⟨r1,xU⟩:∃r,TY x1 y1 y2=r:=⟨_,rfl⟩;obtain ⟨r2,oU⟩:∃r,TY x2 y1 y2=r:=⟨_,rfl⟩;have HC:Hid (Q9 (x1,x2) y1 y2=(r1,r2)):=AC (by unfold Q9;rw[xU,oU]);have dy:=AC (rfl:A1.length=A1.length);obtain ⟨n1,aO⟩:∃n,A1.length=n:=⟨_,rfl⟩;obtain ⟨n2,Fx⟩:∃n,B1.length=n:=⟨_,rfl⟩;have HN:=AC (And.intro aO Fx);have Ej:=AC (HA.out);have El:=AC (HB.out);simp only[length_cons,aO,Fx]at Ej El;rw[aO]at k1 p1 hk;rw[Fx]at k2 q1 hk;rw[aO,Fx];clear aO Fx Om D4 p2 q2 dy HA HB;have c0:=Ak AW ie;have c1:=Ak AW U3;have d0:=Ak AW pX;have d1:=Ak AW aY;go_wp2_with fail;apply Ac (13) [⟨12,6,GZ (.cells #[.int .i64 0,.int .i64 0] 170)⟩] AY AY Ar
    case hstab=>
     intro e he v x y BE hv;rcases Cv he with rfl
     ·exact EI BE hv
    case hlex=>
     intro U;have UY:=fun (v:BA (later U))=>Ak (AA.trans ⟨U,rfl⟩ ⟨v,rfl⟩) c0
     have WC:=fun (v:BA (later U))=>Ak (AA.trans ⟨U,rfl⟩ ⟨v,rfl⟩) c1
     have wu:=fun (v:BA (later U))=>Ak (AA.trans ⟨U,rfl⟩ ⟨v,rfl⟩) d0
     have sn:=fun (v:BA (later U))=>Ak (AA.trans ⟨U,rfl⟩ ⟨v,rfl⟩) d1
     refine Ku ?_
     repeat (go_big_quiet_step (first|(go_at_call 174;exact EQ (Qf _ _ _ _ _ _ _ (by assumption) (by assumption)))))
     exact wpQuiet_nil rfl
    case hown=>
     intro e he o ho;rcases Cv he with rfl
     ·cases ho;exact kR (fun r x=>by simp[go_sem,execOp])
    case htail=>
     intro g u Aw Az;have AX:AA wr (later u):=⟨u,rfl⟩;generalize later u=w3 at *;clear u;obtain ⟨⟨b6,e6,Ah⟩,jW⟩:=Aw _ (List.mem_of_getElem? (i:=0) rfl);dsimp only at e6 jW;have jW:=jW b6 (by rw[e6];rfl);clear Aw Az;refine DH ?_;rw[e6];clear e6;obtain ⟨CB,Fu⟩:=DX Ah;go_wp2_with fail
     first|refine BW (fun wS=>AA wr wS/\wS.heap[b6]?=some (.cells #[.int .i64 r1,.int .i64 r2] 170)) ⟨BQ,CG⟩ ?_|refine AQ (fun wS=>AA wr wS/\wS.heap[b6]?=some (.cells #[.int .i64 r1,.int .i64 r2] 170)) ⟨BQ,CG⟩ ?_
     rintro w4 ⟨Ao,BK⟩;have Bl:=AW.trans Ao;by_cases hf:r1<r2
     ·have ee:decide (r1<r2)=true:=decide_eq_true hf;refine (Jc r1 r2 w4 true ee).mono ?_;rintro e w5 ⟨rfl,Bd⟩;have DW:=Bl.trans Bd;have DD:=AB Bd BK;have ND:=AE DD;have oR:=AC ((HO.out.later (Ao.trans Bd)).later ((AA.refl w5).alloc (.cells #[.int .i64 r1,.int .i64 r2] 170)));have uH:=AC (World.news_of_block (w:=w5.alloc (.cells #[.int .i64 r1,.int .i64 r2] 170)) (cs:= #[.int .i64 r1,.int .i64 r2]) (t:=170) (fr:=(0,0)) (Ae rfl));have aH:=AC (And.intro (DW.alloc (.cells #[.int .i64 r1,.int .i64 r2] 170)) (DI HO.out));have HQ:Hid (K.length+1<=maxLen/\(K.length+1)*16<=140737488355328/\w2.heap.size<=(w5.alloc (.cells #[.int .i64 r1,.int .i64 r2] 170)).heap.size):=AC ⟨by have:=HKL.out;unfold maxLen;omega,by have:=HKL.out;omega,aH.out.1.below.size⟩;have TO:Hid ((K++[(r1,r2)])++(if x2<y2 then Dl A1 ((y1,y2)::B1) else Dl ((x1,x2)::A1) B1)=Dl TA TB):=AC (by
       rw[<-HK.out,HS.out,HC.out,if_pos hf,List.append_assoc])
      clear ee;go_wp2_with (at_builtin;refine wpList_append_own _ rfl _ _ 152 rfl w2.heap.size 170 i0 (.agg #[.int .i64 0,.int .i64 0]) 2 16 underlying152 Gv JM Ie JN rfl (by decide) _ K.length (Da K) rfl oR ⟨w5.heap.size,0,none⟩ 1 1 [.int .i64 r1,.int .i64 r2] rfl rfl uH (by simp[Value.oneCell']) HQ.out.1 HQ.out.2.1 HQ.out.2.2 ?_;intro v' w6 KP J4 ZJ;have IV:=CP aH.out.1 J4 aH.out.2;have S:Hid (OB w6 w2.heap.size v' (K++[(r1,r2)])):=AC (by unfold OB;rw[length_append,Fa];exact KP);clear KP J4 ZJ)
      have jl:=Ak IV U3;have lT:=Ak IV aY;by_cases BN:x2<y2
      ·have JQ:=BN;apply Ac (9) [] AY AY Ar
       case hstab=>
        intro e he v x y BE hv;simp only[mem_cons,not_mem_nil,or_false]at he
       case hlex=>
        intro U;have Yw:=fun (v:BA (later U))=>Ak (AA.trans ⟨U,rfl⟩ ⟨v,rfl⟩) jl
        have XZ:=fun (v:BA (later U))=>Ak (AA.trans ⟨U,rfl⟩ ⟨v,rfl⟩) lT
        refine Ku ?_
        repeat (go_big_quiet_step (first|fail))
        exact wpQuiet_nil rfl
       case hown=>
        intro e he o ho;simp only[mem_cons,not_mem_nil,or_false]at he
       case htail=>
        intro g u Aw Az;have Fp:AA w6 (later u):=⟨u,rfl⟩;generalize later u=w7 at *;clear u;clear Aw Az;refine DH ?_;have RO:=IV.trans Fp;go_wp2_with fail
        all_goals
         go_roundg (n1+(n2+1))
         case measure=>omega
         case rel=>exact ⟨A1,(y1,y2)::B1,(K++[(r1,r2)]),by rw[length_cons,HN.out.1,HN.out.2],RO,O8 Ej HN.out.1 AD (by intro Az;first|rfl|(exfalso;omega)),El.out,S.out.later Fp,by have e:=TO.out;rwa [if_pos JQ]at e⟩
      ·have JQ:=BN;apply Ac (9) [] AY AY Ar
       case hstab=>
        intro e he v x y BE hv;simp only[mem_cons,not_mem_nil,or_false]at he
       case hlex=>
        intro U;have Yw:=fun (v:BA (later U))=>Ak (AA.trans ⟨U,rfl⟩ ⟨v,rfl⟩) jl
        have XZ:=fun (v:BA (later U))=>Ak (AA.trans ⟨U,rfl⟩ ⟨v,rfl⟩) lT
        refine Ku ?_
        repeat (go_big_quiet_step (first|fail))
        exact wpQuiet_nil rfl
       case hown=>
        intro e he o ho;simp only[mem_cons,not_mem_nil,or_false]at he
       case htail=>
        intro g u Aw Az;have Fp:AA w6 (later u):=⟨u,rfl⟩;generalize later u=w7 at *;clear u;clear Aw Az;refine DH ?_;have RO:=IV.trans Fp;go_wp2_with fail
        all_goals
         go_roundg (n1+1+n2)
         case measure=>omega
         case rel=>exact ⟨(x1,x2)::A1,B1,(K++[(r1,r2)]),by rw[length_cons,HN.out.1,HN.out.2],RO,Ej.out,O8 El HN.out.2 AD (by intro Az;first|rfl|(exfalso;omega)),S.out.later Fp,by have e:=TO.out;rwa [if_neg AD]at e⟩
     ·have ee:decide (r1<r2)=false:=decide_eq_false hf;refine (Jc r1 r2 w4 false ee).mono ?_;rintro e w6 ⟨rfl,Ec⟩;have IV:=Bl.trans Ec;have S:=AC (HO.out.later (Ao.trans Ec));have TO:Hid (K++(if x2<y2 then Dl A1 ((y1,y2)::B1) else Dl ((x1,x2)::A1) B1)=Dl TA TB):=AC (by
       rw[<-HK.out,HS.out,HC.out,if_neg hf,List.nil_append])
      clear ee;go_wp2_with fail;have jl:=Ak IV U3;have lT:=Ak IV aY;by_cases BN:x2<y2
      ·have JQ:=BN;apply Ac (9) [] AY AY Ar
       case hstab=>
        intro e he v x y BE hv;simp only[mem_cons,not_mem_nil,or_false]at he
       case hlex=>
        intro U;have Yw:=fun (v:BA (later U))=>Ak (AA.trans ⟨U,rfl⟩ ⟨v,rfl⟩) jl
        have XZ:=fun (v:BA (later U))=>Ak (AA.trans ⟨U,rfl⟩ ⟨v,rfl⟩) lT
        refine Ku ?_
        repeat (go_big_quiet_step (first|fail))
        exact wpQuiet_nil rfl
       case hown=>
        intro e he o ho;simp only[mem_cons,not_mem_nil,or_false]at he
       case htail=>
        intro g u Aw Az;have Fp:AA w6 (later u):=⟨u,rfl⟩;generalize later u=w7 at *;clear u;clear Aw Az;refine DH ?_;have RO:=IV.trans Fp;go_wp2_with fail
        all_goals
         go_roundg (n1+(n2+1))
         case measure=>omega
         case rel=>exact ⟨A1,(y1,y2)::B1,K,by rw[length_cons,HN.out.1,HN.out.2],RO,O8 Ej HN.out.1 AD (by intro Az;first|rfl|(exfalso;omega)),El.out,S.out.later Fp,by have e:=TO.out;rwa [if_pos JQ]at e⟩
      ·have JQ:=BN;apply Ac (9) [] AY AY Ar
       case hstab=>
        intro e he v x y BE hv;simp only[mem_cons,not_mem_nil,or_false]at he
       case hlex=>
        intro U;have Yw:=fun (v:BA (later U))=>Ak (AA.trans ⟨U,rfl⟩ ⟨v,rfl⟩) jl
        have XZ:=fun (v:BA (later U))=>Ak (AA.trans ⟨U,rfl⟩ ⟨v,rfl⟩) lT
        refine Ku ?_
        repeat (go_big_quiet_step (first|fail))
        exact wpQuiet_nil rfl
       case hown=>
        intro e he o ho;simp only[mem_cons,not_mem_nil,or_false]at he
       case htail=>
        intro g u Aw Az;have Fp:AA w6 (later u):=⟨u,rfl⟩;generalize later u=w7 at *;clear u;clear Aw Az;refine DH ?_;have RO:=IV.trans Fp;go_wp2_with fail
        all_goals
         go_roundg (n1+1+n2)
         case measure=>omega
         case rel=>exact ⟨(x1,x2)::A1,B1,K,by rw[length_cons,HN.out.1,HN.out.2],RO,Ej.out,O8 El HN.out.2 AD (by intro Az;first|rfl|(exfalso;omega)),S.out.later Fp,by have e:=TO.out;rwa [if_neg AD]at e⟩
theorem bj(v v2:Value)(l l2:Au)(w:World)(h:RB w v l)(h2:RB w v2 l2)(hn:l.length<=5000)(Fx:l2.length<=5000):Calls prog 112 #[v,v2] w (SZ w fun y=>C9 l y && !C9 l2 y):=by
 have H1:=AC (lx v2 l2 w h2 Fx);have H2:=AC (And.intro h (And.intro hn Fx));clear h h2 hn Fx;go_enter func112,ntmps112;go_wp2_with fail;refine H1.out.mono ?_;rintro e w1 ⟨v3,T,rfl,AG,r1,g1,y1⟩;have HG:=AC (ka g1 y1 l);have H3:=AC (Sx v v3 l (GO (-1073741824) T) w1 (H2.out.1.later AG) r1 H2.out.2.1 (by
  rw[TE];have:=O0 g1 y1
  have:=H2.out.2.2
  omega))
 clear r1 g1 y1;go_wp2_with fail;refine H3.out.mono ?_;rintro e w2 ⟨v4,T2,rfl,AL,r2,g2,y2⟩;have HE:=AC (And.intro r2 (And.intro g2 y2));clear r2 g2 y2;go_wp2_with fail;go_ret;exact ⟨_,T2,rfl,AG.trans AL,HE.out.1,HE.out.2.1,fun y=>(HE.out.2.2 y).trans (HG y)⟩
end
end Go.Proofs.YtamhnffokoejjaaGreatDoor
