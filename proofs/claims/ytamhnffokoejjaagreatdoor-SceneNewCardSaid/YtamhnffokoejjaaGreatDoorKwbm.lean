import Derived.Test.YtamhnffokoejjaaGreatDoorKwbl
set_option linter.all false
set_option maxHeartbeats 1600000
set_option maxRecDepth 100000
namespace Go.Proofs.YtamhnffokoejjaaGreatDoor
open List(mem_cons not_mem_nil replicate)
open Go.RowKit
section
variable {B:Nat}
theorem Gb.parts{w:World}{hg:Nat}{K:List Nat}{L:Qs}{H:List Bool}(h:Gb B w hg K L H):∃A1 A2 A3 n1 n2 n3 k1 k2 k3 c1 c2 c3,Oj B w hg (.slice A1 n1 k1) (.slice A2 n2 k2) (.slice A3 n3 k3) c1 c2 c3 L (Bo L H) (DU H)/\∀b∈c1.bl++c2.bl++c3.bl,b∈K:=by
 obtain ⟨v1,v2,v3,c1,c2,c3,h0,h1,h2,h3,d1,d2,d3,rfl⟩:=h.ex;obtain ⟨A1,n1,k1,rfl⟩:=h1.OL;obtain ⟨A2,n2,k2,rfl⟩:=h2.OL;obtain ⟨A3,n3,k3,rfl⟩:=h3.OL;exact ⟨A1,A2,A3,n1,n2,n3,k1,k2,k3,c1,c2,c3,⟨h0,h1,h2,h3,d1,d2,d3⟩,fun b hb=>hb⟩
theorem Oj.later{w w':World}{hg:Nat}{v1 v2 v3:Value}{c1 c2 c3:Cw}{l1 l2 l3:Qs}(t:Oj B w hg v1 v2 v3 c1 c2 c3 l1 l2 l3)(a:AA w w'):Oj B w' hg v1 v2 v3 c1 c2 c3 l1 l2 l3:=⟨AB a t.CT,t.i1.later a,t.i2.later a,t.i3.later a,t.d12,t.d13,t.d23⟩
theorem jr{L:Qs}{H:List Bool}{j:Nat}(hj:j<L.length)(on:Bool):Bo L (H.set j on)=(Bo L H).set j (if on then (0,0) else L[j]):=by
 apply List.ext_getElem?
 intro k;rw[LW,List.getElem?_set,List.getElem?_set,LW];by_cases e:j=k
 ·subst e;have hl:(Bo L H).length=min L.length H.length:=by unfold Bo;rw[List.length_zipWith]
  by_cases hH:j<H.length
  ·have:j<(Bo L H).length:=by rw[hl];omega
   simp[hj,this,hH]
  ·have:¬j<(Bo L H).length:=by rw[hl];omega
   simp[hj,this,hH]
 ·simp[e]
theorem j7{H:List Bool}{j:Nat}(on:Bool):DU (H.set j on)=(DU H).set j (if on then (0,0) else (0,1)):=by
 unfold DU;rw[List.map_set]
def hdC(n:Nat)(i:Int):Int:=if 0<=i/\i<n then 0 else 1
def hdO(H:List Bool)(i:Int)(on:Bool):List Bool:=if 0<=i/\i<H.length then H.set i.toNat on else H
theorem YH(hv:Value)(L:Qs)(H:List Bool)(i:Int)(on:Bool)(w:World)(h:HV B w hv L H)(hi:¬(0<=i/\i<L.length)):Calls Tryz.prog 153 #[hv,.int .i64 i,.bool on] w fun e w'=>e=.returned (.int .i64 1)/\AA w w':=by
 have HF:=AC (fun (w':World) (a:AA w w')=>Pa hv L H i w' _ (Nv hi) (h.later a));obtain ⟨q,rfl⟩:=h.ptr;clear h hi;go_enter Tryz.func153,Tryz.ntmps153;go_wp2_with fail;refine (HF _ (AA.refl w)).mono ?_;rintro e w1 ⟨rfl,AJ⟩;have AG:=AJ;go_wp2_with fail;go_ret;exact ⟨rfl,BQ⟩
theorem nA{l:Qs}{j:Nat}(h:j<l.length):NX l (j:Int)=.tuple #[.agg #[.int .i64 l[j].1,.int .i64 l[j].2],.bool true]:=by
 unfold NX;rw[dif_pos ⟨AD,AD⟩];simp
theorem cV(hg:Nat)(K:List Nat)(L:Qs)(H:List Bool)(j:Nat)(on:Bool)(w:World)(h:Gb B w hg K L H)(hj:j<L.length):Calls Tryz.prog 153 #[.pointer (some ⟨hg,0,none⟩),.int .i64 (j:Int),.bool on] w fun e w'=>e=.returned (.int .i64 0)/\IR B w hg K L (H.set j on) w':=by
 have xG:=h.mB;have ua:=h.lt;have HF:=AC (fun (w':World) (a:AA w w')=>Pa (.pointer (some ⟨hg,0,none⟩)) L H (j:Int) w' _ (nA hj) (h.v.later a));have hx:CF L[j]=false:=(dB _).2 (h.mA.1 _ (List.getElem_mem hj));obtain ⟨A1,A2,A3,n1,n2,n3,k1,k2,k3,c1,c2,c3,t,hK⟩:=h.parts;have hlen:=h.len;have OY:=h.base;have MI:(Bo L H).length=L.length:=O9 hlen;have aj:(DU H).length=L.length:=by rw[af,hlen]
 have H1:=AC (fun (W:World) (a:AA w W) (x y:Int) (hb:CF (x,y)=false)=>(LN _ c2 (Bo L H) (j:Int) x y W (t.i2.later a)).mono fun e W' ⟨q1,q2⟩=>(⟨by rw[(Ky (l:=Bo L H) (i:=(j:Int)) ⟨AD,AD⟩ hb).1]at q1;exact q1,by
  have:=Oj.xq (w:=W) (t.later a) (fun b hb=>.inl (hK b hb)) (AZ.refl _ _) q2
  rw[(Ky (l:=Bo L H) (i:=(j:Int)) ⟨AD,AD⟩ hb).2,Int.toNat_natCast]at this;exact this⟩:e=Ending.returned (.int .i64 0)/\B9 B W hg K L ((Bo L H).set j (x,y)) (DU H) W'))
 have H2:=AC (fun (W0 W:World) (x y:Int) (l2:Qs) (u1 u2 u3:Value) (d1 d2 d3:Cw) (hb:CF (x,y)=false) (t':Oj B W hg u1 u2 u3 d1 d2 d3 L l2 (DU H)) (hk:∀b∈d1.bl++d2.bl++d3.bl,b∈K\/W0.heap.size<=b) (hs:AZ (HC B W0 hg K) W0 W)=>(LN u3 d3 (DU H) (j:Int) x y W t'.i3).mono fun e W' ⟨q1,q2⟩=>(⟨by rw[(Ky (l:=DU H) (i:=(j:Int)) ⟨AD,AD⟩ hb).1]at q1;exact q1,by
  have:=Oj.zZ (w:=W0) t' hk hs q2
  rw[(Ky (l:=DU H) (i:=(j:Int)) ⟨AD,AD⟩ hb).2,Int.toNat_natCast]at this;exact this⟩:e=Ending.returned (.int .i64 0)/\B9 B W0 hg K L l2 ((DU H).set j (x,y)) W'))
 have HD:Hid (∀(W W':World),AA w W->B9 B W hg K L ((Bo L H).set j (if on then (0,0) else L[j])) ((DU H).set j (if on then (0,0) else (0,1))) W'->IR B w hg K L (H.set j on) W'):=AC (fun W W' a q=>(B9.from a q).done OY (by rw[List.length_set];exact hlen) (jr hj on).symm (j7 on).symm);have pD:Hid (∀(W W':World) (s:Nat) (cs:Array Value) (l1 l2 l3:Qs),w.heap.size<=s->W.heap[s]?=some (.cells cs 61)->B9 B W hg K l1 l2 l3 W'->W'.heap[s]?=some (.cells cs 61)):=AC (fun W W' s cs l1 l2 l3 a hb q=>q.box hb AD (fun c=>by have:=(xG _ c).2;omega));have Ag:=t.CT;obtain ⟨x,y⟩:∃x:Int × Int,x=L[j]:=⟨_,rfl⟩;generalize BE:L[j]=xy at *;obtain ⟨x0,y0⟩:=xy;clear h t hK xG hlen OY MI aj hj y x BE;generalize Bo L H=l2 at *;generalize DU H=l3 at *;generalize H.set j on=H2' at *
 cases on with
 |true=>
  simp only[if_true]at HD;have qB:CF (0,0)=false:=by decide
  go_enter Tryz.func153,Tryz.ntmps153;go_wp2_with fail;refine (HF _ (AA.refl w)).mono ?_;rintro e w1 ⟨rfl,AJ⟩;have j5:=AJ.below.size;have AG:=AJ;have AH:=AB AJ Ag;go_wp2_with fail;refine BW (fun wS=>AA w1 wS/\wS.heap[w1.heap.size]?=some (.cells #[.int .i64 0,.int .i64 0] 61)/\wS.heap[w1.heap.size+1]?=some (.cells #[.int .i64 0,.int .i64 0] 61)) ⟨BQ,CG,CG⟩ ?_;rintro w2 ⟨AL,BH,DM⟩;have AR:=AG.trans AL;have AU:=AB AL AH;apply Ac (6) [] AY AY Ar
  case hstab=>
   intro e he v x y BE hv;simp only[mem_cons,not_mem_nil,or_false]at he
  case hlex=>
   intro U;have q0:=fun (v:BA (later U))=>AE (AB ⟨v,rfl⟩ (AB ⟨U,rfl⟩ AU))
   have q1:=fun (v:BA (later U))=>AE (AB ⟨v,rfl⟩ (AB ⟨U,rfl⟩ BH))
   have q2:=fun (v:BA (later U))=>AE (AB ⟨v,rfl⟩ (AB ⟨U,rfl⟩ DM))
   refine Ku ?_
   repeat (go_big_quiet_step (fail))
   exact wpQuiet_nil rfl
  case hown=>
   intro e he o ho;simp only[mem_cons,not_mem_nil,or_false]at he
  case htail=>
   intro g u Aw Az;have AX:AA w2 (later u):=⟨u,rfl⟩;generalize later u=w3 at *;clear u;clear Aw Az;refine DH ?_;have An:=AR.trans AX;have Ah:=AB AX AU;have BD:=AB AX BH;have Er:=AB AX DM;obtain ⟨CB,Fu,Jv⟩:=GH Ah;obtain ⟨Dm,FE,JI⟩:=GH BD;obtain ⟨gN,jG,fu⟩:=GH Er;go_wp2_with fail;refine (H1 w3 An 0 0 qB).mono ?_;rintro e w4 ⟨rfl,t4⟩;have CE:=pD w3 w4 _ _ _ _ _ (by have:=AG.below.size;omega) Er t4;have sM:=AC An;obtain ⟨u1,u2,u3,d1,d2,d3,t,O4,aj⟩:=t4;have H3:=AC (fun (W:World) (a:AA w4 W)=>H2 w3 W 0 0 _ u1 u2 u3 d1 d2 d3 qB (t.later a) O4 (aj.later a));have BK:=t.CT;obtain ⟨A1,n1,k1,rfl⟩:=t.i1.OL;obtain ⟨A2,n2,k2,rfl⟩:=t.i2.OL;obtain ⟨A3,n3,k3,rfl⟩:=t.i3.OL;have Bl:=AA.refl w4;clear t O4 aj AU BH DM Ah BD Er CB Dm gN Fu FE jG Jv JI fu;go_wp2_with fail;apply Ac (6) [] AY AY Ar
   case hstab=>
    intro e he v x y BE hv;simp only[mem_cons,not_mem_nil,or_false]at he
   case hlex=>
    intro U;have q0:=fun (v:BA (later U))=>AE (AB ⟨v,rfl⟩ (AB ⟨U,rfl⟩ BK))
    have q1:=fun (v:BA (later U))=>AE (AB ⟨v,rfl⟩ (AB ⟨U,rfl⟩ CE))
    refine Ku ?_
    repeat (go_big_quiet_step (fail))
    exact wpQuiet_nil rfl
   case hown=>
    intro e he o ho;simp only[mem_cons,not_mem_nil,or_false]at he
   case htail=>
    intro g u Aw Az;have Bd:AA w4 (later u):=⟨u,rfl⟩;generalize later u=w5 at *;clear u;clear Aw Az;refine DH ?_;have DW:=Bl.trans Bd;go_wp2_with fail;refine (H3 w5 DW).mono ?_;rintro e w6 ⟨rfl,t6⟩;have HZ:=AC (HD _ _ sM t6);clear t6;go_wp2_with fail;go_ret;exact ⟨rfl,HZ.out⟩
 |false=>
  simp only[Bool.false_eq_true,if_false]at HD;have qB:CF (0,1)=false:=by decide
  go_enter Tryz.func153,Tryz.ntmps153;go_wp2_with fail;refine (HF _ (AA.refl w)).mono ?_;rintro e w1 ⟨rfl,AJ⟩;have j5:=AJ.below.size;have AG:=AJ;have AH:=AB AJ Ag;go_wp2_with fail;refine BW (fun wS=>AA w1 wS/\wS.heap[w1.heap.size]?=some (.cells #[.int .i64 x0,.int .i64 y0] 61)/\wS.heap[w1.heap.size+1]?=some (.cells #[.int .i64 0,.int .i64 1] 61)) ⟨BQ,CG,CG⟩ ?_;rintro w2 ⟨AL,BH,DM⟩;have AR:=AG.trans AL;have AU:=AB AL AH;apply Ac (6) [] AY AY Ar
  case hstab=>
   intro e he v x y BE hv;simp only[mem_cons,not_mem_nil,or_false]at he
  case hlex=>
   intro U;have q0:=fun (v:BA (later U))=>AE (AB ⟨v,rfl⟩ (AB ⟨U,rfl⟩ AU))
   have q1:=fun (v:BA (later U))=>AE (AB ⟨v,rfl⟩ (AB ⟨U,rfl⟩ BH))
   have q2:=fun (v:BA (later U))=>AE (AB ⟨v,rfl⟩ (AB ⟨U,rfl⟩ DM))
   refine Ku ?_
   repeat (go_big_quiet_step (fail))
   exact wpQuiet_nil rfl
  case hown=>
   intro e he o ho;simp only[mem_cons,not_mem_nil,or_false]at he
  case htail=>
   intro g u Aw Az;have AX:AA w2 (later u):=⟨u,rfl⟩;generalize later u=w3 at *;clear u;clear Aw Az;refine DH ?_;have An:=AR.trans AX;have Ah:=AB AX AU;have BD:=AB AX BH;have Er:=AB AX DM;obtain ⟨CB,Fu,Jv⟩:=GH Ah;obtain ⟨Dm,FE,JI⟩:=GH BD;obtain ⟨gN,jG,fu⟩:=GH Er;go_wp2_with fail;refine (H1 w3 An x0 y0 hx).mono ?_;rintro e w4 ⟨rfl,t4⟩;have CE:=pD w3 w4 _ _ _ _ _ (by have:=AG.below.size;omega) Er t4;have sM:=AC An;obtain ⟨u1,u2,u3,d1,d2,d3,t,O4,aj⟩:=t4;have H3:=AC (fun (W:World) (a:AA w4 W)=>H2 w3 W 0 1 _ u1 u2 u3 d1 d2 d3 qB (t.later a) O4 (aj.later a));have BK:=t.CT;obtain ⟨A1,n1,k1,rfl⟩:=t.i1.OL;obtain ⟨A2,n2,k2,rfl⟩:=t.i2.OL;obtain ⟨A3,n3,k3,rfl⟩:=t.i3.OL;have Bl:=AA.refl w4;clear t O4 aj AU BH DM Ah BD Er CB Dm gN Fu FE jG Jv JI fu;go_wp2_with fail;apply Ac (6) [] AY AY Ar
   case hstab=>
    intro e he v x y BE hv;simp only[mem_cons,not_mem_nil,or_false]at he
   case hlex=>
    intro U;have q0:=fun (v:BA (later U))=>AE (AB ⟨v,rfl⟩ (AB ⟨U,rfl⟩ BK))
    have q1:=fun (v:BA (later U))=>AE (AB ⟨v,rfl⟩ (AB ⟨U,rfl⟩ CE))
    refine Ku ?_
    repeat (go_big_quiet_step (fail))
    exact wpQuiet_nil rfl
   case hown=>
    intro e he o ho;simp only[mem_cons,not_mem_nil,or_false]at he
   case htail=>
    intro g u Aw Az;have Bd:AA w4 (later u):=⟨u,rfl⟩;generalize later u=w5 at *;clear u;clear Aw Az;refine DH ?_;have DW:=Bl.trans Bd;go_wp2_with fail;refine (H3 w5 DW).mono ?_;rintro e w6 ⟨rfl,t6⟩;have HZ:=AC (HD _ _ sM t6);clear t6;go_wp2_with fail;go_ret;exact ⟨rfl,HZ.out⟩
theorem Xe(hg:Nat)(K:List Nat)(L:Qs)(H:List Bool)(i:Int)(on:Bool)(w:World)(h:Gb B w hg K L H):Calls Tryz.prog 153 #[.pointer (some ⟨hg,0,none⟩),.int .i64 i,.bool on] w fun e w'=>e=.returned (.int .i64 (hdC L.length i))/\IR B w hg K L (hdO H i on) w':=by
 unfold hdC hdO;by_cases hi:0<=i/\i<L.length
 ·rw[if_pos hi,if_pos (by rw[h.len];exact hi)];obtain ⟨j,rfl⟩:=Int.eq_ofNat_of_zero_le hi.1;exact cV hg K L H j on w h AD
 ·rw[if_neg hi,if_neg (by rw[h.len];exact hi)];refine (YH _ L H i on w h.v hi).mono ?_;rintro e w' ⟨rfl,a⟩;exact ⟨rfl,IR.same h a⟩
theorem Gb.void{w w':World}(h:w'.heap[w.heap.size]?=some (.cells #[.slice none 0 0,.slice none 0 0,.slice none 0 0] 116)):Gb w.heap.size w' w.heap.size [] [] []:=
 ⟨⟨_,_,_,⟨none,none⟩,⟨none,none⟩,⟨none,none⟩,h,BU.void _,BU.void _,BU.void _,fun b hb=>absurd hb not_mem_nil,fun b hb=>absurd hb not_mem_nil,fun b hb=>absurd hb not_mem_nil,rfl⟩,Nat.le_refl _,rfl⟩
theorem IR.any{w w1 w':World}{hg:Nat}{K:List Nat}{L:Qs}{H:List Bool}(h:IR B w1 hg K L H w')(a:AA w w1)(hB:w.heap.size<=B)(qB:B<=hg):AA w w':=by
 obtain ⟨_,_,_,st⟩:=h;refine st.any a (fun b hb=>?_);rcases hb with rfl|⟨q,_⟩
 ·omega
 ·omega
theorem br(u:Value)(m:Qs)(C:Nat)(w:World)(hu:OQ 61 w C u m)(hm:m.length<=45000)(hb:m.any CF=false):Calls Tryz.prog 38 #[u] w fun e w'=>∃hg K,e=.returned (.tuple #[.pointer (some ⟨hg,0,none⟩),.int .i64 0])/\AA w w'/\Gb w.heap.size w' hg K m (replicate m.length false):=by
 have HS:Hid (∀(w':World),AA w w'->w'.heap[w.heap.size]?=some (.cells #[.slice none 0 0,.slice none 0 0,.slice none 0 0] 116)->Calls Tryz.prog 90 #[.pointer (some ⟨w.heap.size,0,none⟩),.int .i64 0,.int .i64 0,u] w' fun e Bg=>e=.returned (.int .i64 0)/\AA w Bg/\∃K,Gb w.heap.size Bg w.heap.size K m (replicate m.length false)):=AC (fun w' a h0=>by
  refine (Rs w.heap.size [] [] m [] 0 0 C u w' (Gb.void h0) a.below.size (OQ.later a hu) Ar (by simpa using hm) hb).mono ?_;rintro e Bg ⟨rfl,q⟩;refine ⟨rfl,q.any a (Nat.le_refl _) (Nat.le_refl _),?_⟩;obtain ⟨K',k1,_⟩:=q;have e1:On [] m 0 0=m:=by unfold On;simp
  have e2:ge [] m.length 0 0=replicate m.length false:=by unfold ge;simp
  rw[e1,e2]at k1;exact ⟨K',k1⟩)
 obtain ⟨A,cap,rfl,-⟩:=(OQ.rq hu).form;clear hu hm hb;generalize m.length=M at *;go_enter Tryz.func38,Tryz.ntmps38;go_wp2_with fail;refine AQ (fun wS=>AA w wS/\wS.heap[w.heap.size]?=some (.cells #[.slice none 0 0,.slice none 0 0,.slice none 0 0] 116)) ⟨BQ,CG⟩ ?_;rintro w1 ⟨AJ,AH⟩;have AG:=AJ;refine (HS _ AG AH).mono ?_;rintro e w2 ⟨rfl,b2,K,q⟩;have HZ:=AC (And.intro b2 q);clear b2 q;go_wp2_with fail;refine bodyPost_ret (v:=.tuple #[.pointer (some ⟨w.heap.size,0,none⟩),.int .i64 0]) (by simp[results,Tryz.results38,go_sem]) rfl ?_;exact ⟨_,K,rfl,HZ.out.1,HZ.out.2⟩
end
end Go.Proofs.YtamhnffokoejjaaGreatDoor
