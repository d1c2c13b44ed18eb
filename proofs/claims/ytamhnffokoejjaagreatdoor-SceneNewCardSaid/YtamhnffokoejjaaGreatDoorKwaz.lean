import Derived.Deep.DeepCutAuto
import Derived.Deep.CutBlock
import Derived.Test.YtamhnffokoejjaaGreatDoorKwau
set_option linter.all false
set_option maxHeartbeats 1600000
set_option maxRecDepth 100000
namespace Go.Proofs.YtamhnffokoejjaaGreatDoor
open List(length_append length_take length_drop mem_cons)
open Nat(le_trans le_refl)
open Go.Proofs.Tryz
open Go.RowKit
section
structure tW(W:World)(m R H:Int)(L:Nat->Bool)(g:Nat->Value)(x:World):Prop where
 any:AA W x
 mG:L 13=true->∃b,g 13=.pointer (some ⟨b,0,none⟩)/\W.heap.size<=b/\∃u v,x.heap[b]?=some (.cells #[u,v] 61)
 e14:L 14=true->∃b,g 14=.pointer (some ⟨b,0,none⟩)/\W.heap.size<=b/\∃a1 a2 a3,x.heap[b]?=some (.cells #[a1,a2,a3] 206)/\(L 16=true->a1=.int .i64 m/\a2=.int .i64 R/\a3=.int .i64 H)
 vU:L 16=true->L 14=true
section
variable {W x y:World}{m R H:Int}{L L':Nat->Bool}{g:Nat->Value}
theorem tW.skip{k:Nat}(h:tW W m R H L g x)(h1:13≠k)(h2:14≠k)(h3:16≠k)(u:Value):tW W m R H (fun i=>if i=k then true else L i) (fun i=>if i=k then u else g i) x:=
 ⟨h.any,by simp only[if_neg h1];exact h.mG,by simp only[if_neg h2,if_neg h3];exact h.e14,by simp only[if_neg h2,if_neg h3];exact h.vU⟩
end
end
section
variable {B:Nat}
structure G9(B:Nat)(w:World)(g:Nat)(t:Ht):Prop where
 obj:∃rv,w.heap[g]?=some (.cells #[rv] 211)/\CD B t rv w
 ok:t.Ok
 base:B<=g
theorem G9.q{w:World}{g:Nat}{t:Ht}(h:G9 B w g t):pB w g t:=by
 obtain ⟨rv,hg,_,F,hF,_⟩:=h.obj;exact ⟨rv,F,hg,hF⟩
theorem G9.later{w w':World}{g:Nat}{t:Ht}(h:G9 B w g t)(a:AA w w'):G9 B w' g t:=by
 obtain ⟨rv,hg,ht⟩:=h.obj;exact ⟨⟨rv,AB a hg,AV a ht⟩,h.ok,h.base⟩
theorem G9.fit{w:World}{g:Nat}{t:Ht}(h:G9 B w g t):t.Fit:=h.ok.fit
def Chg(B:Nat)(w:World)(g:Nat)(t:Ht)(b:Nat):Prop:=b=g\/(B<=b/\((∃cs,w.heap[b]?=some (.cells cs 249))\/b∈t.CW))
def OU(B:Nat)(w:World)(g:Nat)(t:Ht)(l:Qs)(w':World):Prop:=(∃t',G9 B w' g t'/\t'.hs=l/\∀b∈t'.CW,b∈t.CW\/w.heap.size<=b)/\AZ (Chg B w g t) w w'
theorem OU.any{W w w':World}{g:Nat}{t:Ht}{l:Qs}(h:OU B w g t l w')(hW:AA W w)(hB:W.heap.size<=B)(hg:B<=g):AA W w':=h.2.any hW (fun k hk=>by
 rcases hk with rfl|⟨hk,_⟩
 ·omega
 ·omega)
def IU(l:Qs)(i:Int)(x:Int × Int):Int:=if ¬(0<=i/\i<l.length) then 1 else if CF x=true then 5 else 0
def Fd(l:Qs)(i:Int)(x:Int × Int):Qs:=if IU l i x=0 then l.set i.toNat x else l
theorem K9{x:Int × Int}(h:CF x=false):RQ x:=by
 unfold CF at h;have:=of_decide_eq_false h
 unfold RQ;omega
theorem dB(x:Int × Int):CF x=false↔RQ x:=by
 refine ⟨K9,fun h=>?_⟩;unfold CF;unfold RQ at h;exact decide_eq_false AD
theorem Ht.Ok.setT{t:Ht}(h:t.Ok)(i:Nat){x:Int × Int}(hx:RQ x):(t.setT i x).Ok:=by
 obtain ⟨e1,e2,e3,e4⟩:=Ht.GD t i x;exact ⟨e4 h.Yx,by rw[Ht.Gq];exact h.Hz.set hx,by rw[Ht.Gq,List.length_set];exact h.most,by rw[e1];exact h.rows⟩
theorem OA(v:Value)(t:Ht)(i x y:Int)(w:World)(h:Oa w v t)(hf:t.Fit)(hi:¬(0<=i/\i<t.hs.length)):Calls prog 190 #[v,.int .i64 i,.agg #[.int .i64 x,.int .i64 y]] w fun e w'=>e=.returned (.int .i64 1)/\AA w w':=by
 have HH:=AC (fun (w':World) (a:AA w w')=>F6 v t i false w' (decide_eq_false hi) (h.later a) hf);clear h hf hi;go_enter func190,ntmps190;go_wp2_with fail;refine AQ (fun wS=>AA w wS/\wS.heap[w.heap.size]?=some (.cells #[.int .i64 x,.int .i64 y] 61)) ⟨BQ,CG⟩ ?_;rintro w1 ⟨AJ,AH⟩;have AG:=AJ;refine (HH _ AG).mono ?_;rintro e w2 ⟨rfl,AL⟩;have AR:=AG.trans AL;go_wp2_with fail;go_ret;exact ⟨rfl,BQ⟩
theorem Yn(v:Value)(t:Ht)(i x y:Int)(w:World)(h:Oa w v t)(hf:t.Fit)(hi:0<=i/\i<t.hs.length)(hx:CF (x,y)=true):Calls prog 190 #[v,.int .i64 i,.agg #[.int .i64 x,.int .i64 y]] w fun e w'=>e=.returned (.int .i64 5)/\AA w w':=by
 have HH:=AC (fun (w':World) (a:AA w w')=>F6 v t i true w' (decide_eq_true hi) (h.later a) hf);have HM:=AC (fun (w':World)=>MT x y true w' hx);clear h hf hi hx;go_enter func190,ntmps190;go_wp2_with fail;refine AQ (fun wS=>AA w wS/\wS.heap[w.heap.size]?=some (.cells #[.int .i64 x,.int .i64 y] 61)) ⟨BQ,CG⟩ ?_;rintro w1 ⟨AJ,AH⟩;have AG:=AJ;refine (HH _ AG).mono ?_;rintro e w2 ⟨rfl,AL⟩;have AR:=AG.trans AL;have AU:=AB AL AH;have BS:=AE AU;go_wp2_with fail;refine (HM _).mono ?_;rintro e w3 ⟨rfl,AX⟩;have An:=AR.trans AX;(try clear BS);go_wp2_with fail;go_ret;exact ⟨rfl,BQ⟩
theorem OU.spliced{w w1 w':World}{g:Nat}{t T:Ht}{l:Qs}{u:Value}(h:G9 B w g t)(a:AA w w1)(hT:CD B T u w1)(e:T.hs=l)(fn:T.Cd)(nd:T.CW.Nodup)(bk:∀b∈T.CW,b∈t.CW\/w.heap.size<=b)(tl:D8 l)(lm:l.length<=45000)(hs:w'=w1.setCell ⟨g,0,none⟩ u):OU B w g t l w':=by
 obtain ⟨rv,hg,hB,F,hF,mo⟩:=h.obj;have ci:=AB a hg;subst hs;obtain ⟨hB1,G,hG,hGb⟩:=hT;have Az:g∉G:=fun hgF=>by
  rcases hG.kinds g hgF with ⟨cs,hc⟩|⟨_,cs,hc⟩
  ·rw[ci]at hc;cases hc
  ·rw[ci]at hc;cases hc
 refine ⟨⟨T,⟨⟨u,BI ci rfl,by rw[World.size_setCell];exact hB1,G,hG.frame (fun b hb=>?_),hGb⟩,⟨fn,by rw[e];exact tl,by rw[e];exact lm,nd⟩,h.base⟩,e,bk⟩,(AZ.of a).setCell (.inl rfl) u⟩;have Iz:=hG.lt b hb;have:b≠g:=fun q=>Az (q ▸ hb)
 cases hc:w1.heap[b]? with
 |none=>rw[Array.getElem?_eq_none_iff]at hc;omega
 |some o=>exact Bh this hc
theorem D8.Nl{m:Qs}(h:m.any CF=false):D8 m:=fun x hx=>by
 have:=List.any_eq_false.1 h x hx
 exact K9 (by simpa using this)
theorem Jr:YS 221 #[] CF:=fun b1 b2 w'=>MT b1 b2 _ w' rfl
theorem rI(g:Nat)(u:Value)(t:Ht)(i:Nat)(m:Qs)(w:World)(h:pB w g t)(hf:t.Fit)(hi:i<=t.hs.length)(hu:QR w u m)(hm:m.length<=90000)(hk:m.any CF=true):Calls prog 178 #[.pointer (some ⟨g,0,none⟩),.int .i64 (i:Int),u] w fun e w'=>e=.returned (.int .i64 5)/\AA w w':=by
 have HL:=AC (fun (w':World) (a:AA w w')=>CX (.pointer (some ⟨g,0,none⟩)) t w' (h.Di.later a) hf);have HC:=AC (fun (w':World) (a:AA w w')=>Hm u 221 #[] CF m true w' hk (hu.later a) AD (enters_of func221 AY rfl) Jr);obtain ⟨A,cap,rfl,-⟩:=hu.form;have d0:decide ((i:Int)<0)=false:=decide_eq_false AD;have d1:decide (t.hs.length<i)=false:=decide_eq_false AD;clear h hf hi hu hm hk;generalize t.hs.length=n at *;go_enter func178,ntmps178;go_wp2_with fail;refine (HL _ (AA.refl w)).mono ?_;rintro e w1 ⟨rfl,AJ⟩;have AG:=AJ;go_wp2_with fail;refine (HC _ AG).mono ?_;rintro e w2 ⟨rfl,AL⟩;have AR:=AG.trans AL;go_wp2_with fail;go_ret;exact ⟨rfl,AR⟩
theorem dH(g:Nat)(u:Value)(t:Ht)(i:Nat)(m:Qs)(w:World)(h:G9 B w g t)(hi:i<=t.hs.length)(hu:QR w u m)(hm:t.hs.length+m.length<=45000)(hk:m.any CF=false):Calls prog 178 #[.pointer (some ⟨g,0,none⟩),.int .i64 (i:Int),u] w fun e w'=>e=.returned (.int .i64 0)/\OU B w g t (t.hs.take i++m++t.hs.drop i) w':=by
 have hf:=h.fit;have HL:=AC (fun (w':World) (a:AA w w')=>CX (.pointer (some ⟨g,0,none⟩)) t w' (h.q.Di.later a) hf);have HC:=AC (fun (w':World) (a:AA w w')=>Hm u 221 #[] CF m false w' hk (hu.later a) AD (enters_of func221 AY rfl) Jr);have HE:Hid (∀w0 w1 u' w',AA w w0->AA w0 w1->Im B w0 t (t.hs.take i++m++t.hs.drop i) u' w1->w'=w1.setCell ⟨g,0,none⟩ u'->OU B w g t (t.hs.take i++m++t.hs.drop i) w'):=AC (fun w0 w1 u' w' a0 a1 ⟨T,k1,k2,k3,k4,k5⟩ e=>by
  refine OU.spliced h (a0.trans a1) k1 k2 k3 k4 (fun b hb=>(k5 b hb).imp id (fun q=>le_trans a0.below.size q)) (((hf.Hz.take i).append (D8.Nl hk)).append (hf.Hz.drop i)) ?_ e;rw[length_append,length_append,length_take,length_drop];omega)
 obtain ⟨rv,hg,ht⟩:=h.obj;have HS:=AC (fun (w':World) (a:AA w w')=>Kr t i i rv u m w' (AV a ht) h.ok (le_refl _) hi (hu.later a) AD (D8.Nl hk));obtain ⟨q,rfl⟩:=ht.ptr;obtain ⟨A,cap,rfl,-⟩:=hu.form;have d0:decide ((i:Int)<0)=false:=decide_eq_false AD;have d1:decide (t.hs.length<i)=false:=decide_eq_false AD;have d2:decide ((16777216:Int)-(t.hs.length:Int)<(m.length:Int))=false:=decide_eq_false AD;have d3:(t.hs.length:Int)<=45000:=AD;have Ag:=hg;clear h hf hi hu hm hk ht hg;generalize t.hs.take i++m++t.hs.drop i=l2 at *;generalize t.hs.length=n at *;generalize m.length=k at *;go_enter func178,ntmps178;go_wp2_with fail;refine (HL _ (AA.refl w)).mono ?_;rintro e w1 ⟨rfl,AJ⟩;have AG:=AJ;have AH:=AB AJ Ag;go_wp2_with fail;refine (HC _ AG).mono ?_;rintro e w2 ⟨rfl,AL⟩;have AR:=AG.trans AL;have AU:=AB AL AH;go_wp2_with fail;refine (HL _ AR).mono ?_;rintro e w3 ⟨rfl,AX⟩;have An:=AR.trans AX;have Ah:=AB AX AU;have CB:=AE Ah;go_wp2_with fail;refine (HS _ An).mono ?_;rintro e w4 ⟨u4,rfl,Ao,p4⟩;have HZ:=AC (HE w3 w4 u4 _ An Ao p4 rfl);obtain ⟨T,hT,-⟩:=p4;obtain ⟨q4,rfl⟩:=hT.ptr;have BK:=AB Ao Ah;obtain ⟨Dz,FK⟩:=DX BK;(try clear CB);clear hT;go_wp2_with fail;go_ret;exact ⟨rfl,HZ.out⟩
end
section
variable {B:Nat}
theorem G9.void{w w1:World}{g:Nat}(hg:w1.heap[g]?=some (.cells #[.pointer none] 211))(hB:B<=g)(hs:B<=w1.heap.size):G9 B w1 g .nil:=⟨⟨_,hg,JA hs⟩,⟨Ht.Cd.nil,D8.nil,by decide,List.nodup_nil⟩,hB⟩
theorem Rq(u:Value)(m:Qs)(w:World)(hu:QR w u m)(hm:m.length<=45000)(hk:m.any CF=false):Calls prog 132 #[u] w fun e w'=>∃g t,e=.returned (.tuple #[.pointer (some ⟨g,0,none⟩),.int .i64 0])/\AA w w'/\G9 w.heap.size w' g t/\t.hs=m:=by
 have HI:=AC (fun (w1:World) (a:AA w w1) (hg:w1.heap[w.heap.size]?=some (.cells #[.pointer none] 211))=>dH w.heap.size u .nil 0 m w1 (G9.void (B:=w.heap.size) (w:=w) hg (le_refl _) a.below.size) (Nat.zero_le _) (hu.later a) (by simp[Ht.hs];omega) hk);obtain ⟨A,cap,rfl,-⟩:=hu.form;clear hu hm hk;go_enter func132,ntmps132;go_wp2_with fail;refine AQ (fun wS=>AA w wS/\wS.heap[w.heap.size]?=some (.cells #[.pointer none] 211)) ⟨BQ,CG⟩ ?_;rintro w1 ⟨AJ,AH⟩;have AG:=AJ;refine (HI _ AG AH).mono ?_;rintro e w2 ⟨rfl,hq⟩;have HZ:Hid (AA w w2/\∃t,G9 w.heap.size w2 w.heap.size t/\t.hs=m):=AC (by
  refine ⟨hq.any AG (le_refl _) (le_refl _),?_⟩;obtain ⟨⟨t',k1,k2,_⟩,_⟩:=hq;exact ⟨t',k1,by rw[k2];simp[Ht.hs]⟩)
 clear hq;go_wp2_with fail;refine bodyPost_ret (v:=.tuple #[.pointer (some ⟨w.heap.size,0,none⟩),.int .i64 0]) (by simp[results,results132,go_sem]) rfl ?_;obtain ⟨a,t,k1,k2⟩:=HZ.out;exact ⟨_,t,rfl,a,k1,k2⟩
end
section
variable {B:Nat}
def lC(w:World)(g b:Nat):Prop:=b=g\/∃t rv F,w.heap[g]?=some (.cells #[rv] 211)/\Dx w t rv F/\b∈F
def KB(B:Nat)(w:World)(g:Nat)(t:Ht)(l:Qs)(w':World):Prop:=(∃t',G9 B w' g t'/\t'.hs=l/\∀b∈t'.CW,b∈t.CW\/w.heap.size<=b)/\AZ (fun b=>b=g) w w'
def Vc(B:Nat)(w:World)(g:Nat)(t:Ht)(l:Qs)(w':World):Prop:=(∃t',G9 B w' g t'/\t'.hs=l/\t'.CW=t.CW)/\AZ (lC w g) w w'
theorem KB.same{w w':World}{g:Nat}{t:Ht}(h:G9 B w g t)(a:AA w w'):KB B w g t t.hs w':=⟨⟨t,h.later a,rfl,fun _ hb=>.inl hb⟩,.of a⟩
theorem Vc.same{w w':World}{g:Nat}{t:Ht}(h:G9 B w g t)(a:AA w w'):Vc B w g t t.hs w':=⟨⟨t,h.later a,rfl,rfl⟩,.of a⟩
theorem KB.spliced{w w1 w':World}{g:Nat}{t T:Ht}{l:Qs}{u:Value}(h:G9 B w g t)(a:AA w w1)(hT:CD B T u w1)(e:T.hs=l)(fn:T.Cd)(nd:T.CW.Nodup)(bk:∀b∈T.CW,b∈t.CW\/w.heap.size<=b)(tl:D8 l)(lm:l.length<=45000)(hs:w'=w1.setCell ⟨g,0,none⟩ u):KB B w g t l w':=
 ⟨(OU.spliced h a hT e fn nd bk tl lm hs).1,by subst hs;exact (AZ.of a).setCell (S:=fun b=>b=g) rfl u⟩
theorem G9.mono{C:Nat}{w:World}{g:Nat}{t:Ht}(h:G9 B w g t)(hC:C<=B):G9 C w g t:=by
 obtain ⟨rv,hg,ht⟩:=h.obj;exact ⟨⟨rv,hg,ht.mono hC⟩,h.ok,le_trans hC h.base⟩
theorem G9.Yk{w:World}{g:Nat}{t:Ht}(h:G9 B w g t):∀b∈t.CW,B<=b:=fun b hb=>by
 obtain ⟨rv,_,_,F,hF,mo⟩:=h.obj;exact mo b (hF.rows b hb).1
theorem G9.wA{w:World}{g:Nat}{t:Ht}(h:G9 B w g t):∀b∈t.CW,b<w.heap.size:=fun b hb=>by
 obtain ⟨rv,_,_,F,hF,_⟩:=h.obj;exact As (hF.rows b hb).2.choose_spec
theorem G9.gLt{w:World}{g:Nat}{t:Ht}(h:G9 B w g t):g<w.heap.size:=by
 obtain ⟨rv,hg,_⟩:=h.obj;exact As hg
theorem gW(g:Nat)(t:Ht)(i:Nat)(x y:Int)(w:World)(h:G9 B w g t)(hi:i<t.hs.length)(hx:CF (x,y)=false):Calls prog 190 #[.pointer (some ⟨g,0,none⟩),.int .i64 (i:Int),.agg #[.int .i64 x,.int .i64 y]] w fun e w'=>e=.returned (.int .i64 0)/\Vc B w g t (t.hs.set i (x,y)) w':=by
 have HH:=AC (fun (w':World) (a:AA w w')=>F6 (.pointer (some ⟨g,0,none⟩)) t (i:Int) true w' (decide_eq_true AD) (h.q.Di.later a) h.fit);have HM:=AC (fun (w':World)=>MT x y false w' hx);obtain ⟨rv,hg,hB,F,hF,mo⟩:=h.obj;have Az:g∉F:=fun hgF=>by
  rcases hF.kinds g hgF with ⟨cs,hc⟩|⟨_,cs,hc⟩
  ·rw[hg]at hc;cases hc
  ·rw[hg]at hc;cases hc
 have HS:=AC (fun (w':World) (a:AA w w')=>Pw t h.fit h.ok.Yx h.ok.rows rv F i x y w' (hF.later a) hi (K9 hx));have HE:Hid (∀w1 w',AA w w1->AZ (· ∈F) w1 w'->Dx w' (t.setT i (x,y)) rv F->Vc B w g t (t.hs.set i (x,y)) w'):=AC (fun w1 w' a s ht=>by
  have st:AZ (· ∈F) w w':=(AZ.of a).trans s;exact ⟨⟨_,⟨⟨rv,st.own hg Az,le_trans hB st.size,F,ht,mo⟩,h.ok.setT i (K9 hx),h.base⟩,Ht.Gq t i (x,y),(Ht.GD t i (x,y)).1⟩,st.wide (fun b _ hb=>.inr ⟨t,rv,F,hg,hF,hb⟩)⟩)
 obtain ⟨q,rfl⟩:=hF.ptr;have Ag:=hg;clear h hg hF mo Az hx hi hB;generalize t.hs.set i (x,y)=l2 at *;go_enter func190,ntmps190;go_wp2_with fail;refine AQ (fun wS=>AA w wS/\wS.heap[w.heap.size]?=some (.cells #[.int .i64 x,.int .i64 y] 61)) ⟨BQ,CG⟩ ?_;rintro w1 ⟨AJ,Aq⟩;have AG:=AJ;have AH:=AB AJ Ag;refine (HH _ AG).mono ?_;rintro e w2 ⟨rfl,AL⟩;have AR:=AG.trans AL;have AU:=AB AL AH;have BH:=AB AL Aq;have Gl:=AE BH;go_wp2_with fail;refine (HM _).mono ?_;rintro e w3 ⟨rfl,AX⟩;have An:=AR.trans AX;have Ah:=AB AX AU;have BD:=AB AX BH;(try clear Gl);go_wp2_with fail;apply Ac (6) [] AY AY Ar
 case hstab=>
  intro e he v x y BE hv;simp only[mem_cons,List.not_mem_nil,or_false]at he
 case hlex=>
  intro U;have q0:=fun (v:BA (later U))=>AE (AB ⟨v,rfl⟩ (AB ⟨U,rfl⟩ Ah))
  have q1:=fun (v:BA (later U))=>AE (AB ⟨v,rfl⟩ (AB ⟨U,rfl⟩ BD))
  refine Ku ?_
  repeat (go_big_quiet_step (fail))
  exact wpQuiet_nil rfl
 case hown=>
  intro e he o ho;simp only[mem_cons,List.not_mem_nil,or_false]at he
 case htail=>
  intro g u Aw Az;have Ao:AA w3 (later u):=⟨u,rfl⟩;generalize later u=w4 at *;clear u;clear Aw Az;refine DH ?_;have Bl:=An.trans Ao;have BK:=AB Ao Ah;have CE:=AB Ao BD;obtain ⟨Dz,FK,OS⟩:=GH BK;obtain ⟨Is,Me,ph⟩:=GH CE;go_wp2_with fail;refine (HS w4 Bl).mono ?_;rintro e w5 ⟨rfl,st,ht⟩;have HZ:=AC (HE w4 w5 Bl st ht);clear st ht Ag AH Aq AU BH Ah BD BK CE Dz Is FK Me OS ph;go_wp2_with fail;go_ret;exact ⟨rfl,HZ.out⟩
theorem jD(g:Nat)(t:Ht)(i x y:Int)(w:World)(h:G9 B w g t):Calls prog 190 #[.pointer (some ⟨g,0,none⟩),.int .i64 i,.agg #[.int .i64 x,.int .i64 y]] w fun e w'=>e=.returned (.int .i64 (IU t.hs i (x,y)))/\Vc B w g t (Fd t.hs i (x,y)) w':=by
 by_cases h1:0<=i/\i<t.hs.length
 ·cases h2:CF (x,y)
  ·obtain ⟨n,rfl⟩:=Int.eq_ofNat_of_zero_le h1.1;have e1:IU t.hs n (x,y)=0:=by unfold IU;rw[if_neg (fun c=>c h1),h2];rfl
   have e2:Fd t.hs n (x,y)=t.hs.set n (x,y):=by unfold Fd;rw[if_pos e1];rfl
   rw[e1,e2];exact gW g t n x y w h AD h2
  ·have e1:IU t.hs i (x,y)=5:=by unfold IU;rw[if_neg (fun c=>c h1),h2];rfl
   have e2:Fd t.hs i (x,y)=t.hs:=by unfold Fd;rw[if_neg (by rw[e1];decide)]
   rw[e1,e2];refine (Yn _ t i x y w h.q.Di h.fit h1 h2).mono ?_;rintro e w' ⟨rfl,a⟩;exact ⟨rfl,Vc.same h a⟩
 ·have e1:IU t.hs i (x,y)=1:=by unfold IU;rw[if_pos h1]
  have e2:Fd t.hs i (x,y)=t.hs:=by unfold Fd;rw[if_neg (by rw[e1];decide)]
  rw[e1,e2];refine (OA _ t i x y w h.q.Di h.fit h1).mono ?_;rintro e w' ⟨rfl,a⟩;exact ⟨rfl,Vc.same h a⟩
theorem Wx(g:Nat)(u:Value)(t:Ht)(i:Nat)(m:Qs)(w:World)(h:G9 B w g t)(hi:i<=t.hs.length)(hu:QR w u m)(hm:t.hs.length+m.length<=45000)(hk:m.any CF=false):Calls prog 178 #[.pointer (some ⟨g,0,none⟩),.int .i64 (i:Int),u] w fun e w'=>e=.returned (.int .i64 0)/\KB B w g t (t.hs.take i++m++t.hs.drop i) w':=by
 have hf:=h.fit;have HL:=AC (fun (w':World) (a:AA w w')=>CX (.pointer (some ⟨g,0,none⟩)) t w' (h.q.Di.later a) hf);have HC:=AC (fun (w':World) (a:AA w w')=>Hm u 221 #[] CF m false w' hk (hu.later a) AD (enters_of func221 AY rfl) Jr);have HE:Hid (∀w0 w1 u' w',AA w w0->AA w0 w1->Im B w0 t (t.hs.take i++m++t.hs.drop i) u' w1->w'=w1.setCell ⟨g,0,none⟩ u'->KB B w g t (t.hs.take i++m++t.hs.drop i) w'):=AC (fun w0 w1 u' w' a0 a1 ⟨T,k1,k2,k3,k4,k5⟩ e=>by
  refine KB.spliced h (a0.trans a1) k1 k2 k3 k4 (fun b hb=>(k5 b hb).imp id (fun q=>le_trans a0.below.size q)) (((hf.Hz.take i).append (D8.Nl hk)).append (hf.Hz.drop i)) ?_ e;rw[length_append,length_append,length_take,length_drop];omega)
 obtain ⟨rv,hg,ht⟩:=h.obj;have HS:=AC (fun (w':World) (a:AA w w')=>Kr t i i rv u m w' (AV a ht) h.ok (le_refl _) hi (hu.later a) AD (D8.Nl hk));obtain ⟨q,rfl⟩:=ht.ptr;obtain ⟨A,cap,rfl,-⟩:=hu.form;have d0:decide ((i:Int)<0)=false:=decide_eq_false AD;have d1:decide (t.hs.length<i)=false:=decide_eq_false AD;have d2:decide ((16777216:Int)-(t.hs.length:Int)<(m.length:Int))=false:=decide_eq_false AD;have d3:(t.hs.length:Int)<=45000:=AD;have Ag:=hg;clear h hf hi hu hm hk ht hg;generalize t.hs.take i++m++t.hs.drop i=l2 at *;generalize t.hs.length=n at *;generalize m.length=k at *;go_enter func178,ntmps178;go_wp2_with fail;refine (HL _ (AA.refl w)).mono ?_;rintro e w1 ⟨rfl,AJ⟩;have AG:=AJ;have AH:=AB AJ Ag;go_wp2_with fail;refine (HC _ AG).mono ?_;rintro e w2 ⟨rfl,AL⟩;have AR:=AG.trans AL;have AU:=AB AL AH;go_wp2_with fail;refine (HL _ AR).mono ?_;rintro e w3 ⟨rfl,AX⟩;have An:=AR.trans AX;have Ah:=AB AX AU;have CB:=AE Ah;go_wp2_with fail;refine (HS _ An).mono ?_;rintro e w4 ⟨u4,rfl,Ao,p4⟩;have HZ:=AC (HE w3 w4 u4 _ An Ao p4 rfl);obtain ⟨T,hT,-⟩:=p4;obtain ⟨q4,rfl⟩:=hT.ptr;have BK:=AB Ao Ah;obtain ⟨Dz,FK⟩:=DX BK;(try clear CB);clear hT;go_wp2_with fail;go_ret;exact ⟨rfl,HZ.out⟩
theorem k8(g:Nat)(t:Ht)(i k:Nat)(w:World)(h:G9 B w g t)(hi:i+k<=t.hs.length):Calls prog 223 #[.pointer (some ⟨g,0,none⟩),.int .i64 (i:Int),.int .i64 (k:Int)] w fun e w'=>e=.returned (.int .i64 0)/\KB B w g t (t.hs.take i++t.hs.drop (i+k)) w':=by
 have hf:=h.fit;have hm:=h.ok.most;have HL:=AC (CX (.pointer (some ⟨g,0,none⟩)) t w h.q.Di hf);have im:=AC (fun (w':World)=>DT (II (i:Int) (k:Int) t.hs.length w' ⟨AD,AD,AD,AD⟩ AD));have hz:t.hs.take i++[]++t.hs.drop (i+k)=t.hs.take i++t.hs.drop (i+k):=by rw[List.append_nil]
 have HE:Hid (∀w0 w1 u' w',AA w w0->AA w0 w1->Im B w0 t (t.hs.take i++[]++t.hs.drop (i+k)) u' w1->w'=w1.setCell ⟨g,0,none⟩ u'->KB B w g t (t.hs.take i++t.hs.drop (i+k)) w'):=AC (fun w0 w1 u' w' a0 a1 ⟨T,k1,k2,k3,k4,k5⟩ e=>by
  rw[hz]at k2;refine KB.spliced h (a0.trans a1) k1 k2 k3 k4 (fun b hb=>(k5 b hb).imp id (fun q=>le_trans a0.below.size q)) ((hf.Hz.take i).append (hf.Hz.drop (i+k))) ?_ e;rw[length_append,length_take,length_drop];omega)
 obtain ⟨rv,hg,ht⟩:=h.obj;have HS:=AC (fun (w':World) (a:AA w w')=>Kr t i (i+k) rv (.slice none 0 0) [] w' (AV a ht) h.ok AD hi (QR.void w' none 0) (by simp;omega) D8.nil);have hc:((i+k:Nat):Int)=(i:Int)+(k:Int):=AD;rw[hc]at HS;obtain ⟨q,rfl⟩:=ht.ptr;have Ag:=hg;clear h hf hi ht hg hz hm hc;generalize t.hs.take i++t.hs.drop (i+k)=l3 at *;generalize t.hs.take i++[]++t.hs.drop (i+k)=l2 at *;generalize t.hs.length=n at *;go_enter func223,ntmps223;go_wp2_with fail;refine (HL.out).mono ?_;rintro e w1 ⟨rfl,AJ⟩;have AG:=AJ;have AH:=AB AJ Ag;go_wp2_with fail;refine (im _).mono ?_;rintro e w2 ⟨rfl,AL⟩;have AR:=AG.trans AL;have AU:=AB AL AH;have BS:=AE AU;go_wp2_with fail;refine (HS _ AR).mono ?_;rintro e w4 ⟨u4,rfl,Ao,p4⟩;have HZ:=AC (HE w2 w4 u4 _ AR Ao p4 rfl);obtain ⟨T,hT,-⟩:=p4;obtain ⟨q4,rfl⟩:=hT.ptr;have BK:=AB Ao AU;obtain ⟨Dz,FK⟩:=DX BK;(try clear BS);clear hT;go_wp2_with fail;go_ret;exact ⟨rfl,HZ.out⟩
structure Cw where
 row:Option Nat
 sq:Option (Nat × Ht)
def Cw.bl(c:Cw):List Nat:=c.row.toList++(match c.sq with|none=>[]|some (g,t)=>g::t.CW)
def Mg(g:Nat):Value:=.pointer (some ⟨g,0,none⟩)
def BU(B:Nat)(w:World)(v:Value)(c:Cw)(l:Qs):Prop:=
 v.ownBlock=c.row/\((c.sq=none/\l=[]/\w.ownsRow B 166 1 v 0 [])\/∃g t,c.sq=some (g,t)/\t.hs=l/\G9 B w g t/\w.ownsRow B 166 1 v 1 [Mg g])
def RU(w:World)(c:Cw)(b:Nat):Prop:=c.row=some b\/∃g t,c.sq=some (g,t)/\lC w g b
def LU(c:Cw)(b:Nat):Prop:=c.row=some b\/∃g t,c.sq=some (g,t)/\b=g
theorem LU.uP{w:World}{c:Cw}{b:Nat}(h:LU c b):RU w c b:=by
 rcases h with h|⟨g,t,h1,h2⟩
 ·exact .inl h
 ·exact .inr ⟨g,t,h1,.inl h2⟩
theorem LU.bl{c:Cw}{b:Nat}(h:LU c b):b∈c.bl:=by
 unfold Cw.bl;rcases h with h|⟨g,t,h1,rfl⟩
 ·rw[h];simp
 ·rw[h1];simp
theorem BU.void(w:World):BU B w (.slice none 0 0) ⟨none,none⟩ []:=⟨rfl,.inl ⟨rfl,rfl,rfl,.inl ⟨rfl,rfl⟩⟩⟩
theorem Ct{S:Nat->Prop}{w w':World}{t:TypeId}{k n:Nat}{v:Value}{xs:List Value}(h:w.ownsRow B t k v n xs)(hs:AZ S w w')(hn:∀b,v.ownBlock=some b->¬S b):w'.ownsRow B t k v n xs:=by
 refine ⟨h.1,?_⟩;rcases h.2 with q|⟨g,cap,cur,rfl,h1,h2,h3⟩
 ·exact .inl q
 ·exact .inr ⟨g,cap,cur,rfl,h1,hs.own h2 (hn g rfl),h3⟩
theorem G9.stays{S:Nat->Prop}{w w':World}{g:Nat}{t:Ht}(h:G9 B w g t)(hs:AZ S w w')(hn:∀b,lC w g b->¬S b):G9 B w' g t:=by
 obtain ⟨rv,hg,hB,F,hF,mo⟩:=h.obj;exact ⟨⟨rv,hs.own hg (hn g (.inl rfl)),le_trans hB hs.size,F,hF.stays hs (fun b hb=>hn b (.inr ⟨t,rv,F,hg,hF,hb⟩)),mo⟩,h.ok,h.base⟩
theorem BU.stays{S:Nat->Prop}{w w':World}{v:Value}{c:Cw}{l:Qs}(h:BU B w v c l)(hs:AZ S w w')(hn:∀b,RU w c b->¬S b):BU B w' v c l:=by
 refine ⟨h.1,?_⟩;rcases h.2 with ⟨h1,h2,h3⟩|⟨g,t,h1,h2,h3,h4⟩
 ·exact .inl ⟨h1,h2,Ct h3 hs (fun b hb=>hn b (.inl (by rw[<-h.1];exact hb)))⟩
 ·exact .inr ⟨g,t,h1,h2,h3.stays hs (fun b hb=>hn b (.inr ⟨g,t,h1,hb⟩)),Ct h4 hs (fun b hb=>hn b (.inl (by rw[<-h.1];exact hb)))⟩
theorem BU.later{w w':World}{v:Value}{c:Cw}{l:Qs}(h:BU B w v c l)(a:AA w w'):BU B w' v c l:=h.stays (S:=fun _=>False) (.of a) (fun _ _ h=>h)
theorem BU.mono{C:Nat}{w:World}{v:Value}{c:Cw}{l:Qs}(h:BU B w v c l)(hC:C<=B):BU C w v c l:=by
 have hw:∀{n:Nat} {xs:List Value},w.ownsRow B 166 1 v n xs->w.ownsRow C 166 1 v n xs:=fun q=>by
  refine ⟨q.1,?_⟩;rcases q.2 with q|⟨g,cap,cur,h0,h1,h2⟩
  ·exact .inl q
  ·exact .inr ⟨g,cap,cur,h0,AD,h2⟩
 refine ⟨h.1,?_⟩;rcases h.2 with ⟨h1,h2,h3⟩|⟨g,t,h1,h2,h3,h4⟩
 ·exact .inl ⟨h1,h2,hw h3⟩
 ·exact .inr ⟨g,t,h1,h2,h3.mono hC,hw h4⟩
theorem BU.rowAt{w:World}{v:Value}{c:Cw}{l:Qs}(h:BU B w v c l){b:Nat}(hb:c.row=some b):B<=b/\∃cs,w.heap[b]?=some (.cells cs 166):=by
 have key:∀{n:Nat} {xs:List Value},w.ownsRow B 166 1 v n xs->B<=b/\∃cs,w.heap[b]?=some (.cells cs 166):=fun q=>by
  rcases q.2 with ⟨rfl,_⟩|⟨g,cap,cur,rfl,h1,h2,h3⟩
  ·rw[<-h.1]at hb;cases hb
  ·rw[<-h.1]at hb;cases hb;exact ⟨h1,cur,h2⟩
 rcases h.2 with ⟨_,_,h3⟩|⟨g,t,_,_,_,h4⟩
 ·exact key h3
 ·exact key h4
theorem BU.EL{w:World}{v:Value}{c:Cw}{l:Qs}(h:BU B w v c l){g:Nat}{t:Ht}(hb:c.sq=some (g,t)):G9 B w g t/\t.hs=l:=by
 rcases h.2 with ⟨h1,_⟩|⟨g',t',h1,h2,h3,h4⟩
 ·rw[h1]at hb;cases hb
 ·rw[h1]at hb;cases hb;exact ⟨h3,h2⟩
theorem BU.OE{w:World}{v:Value}{c:Cw}{l:Qs}(h:BU B w v c l){b:Nat}(hb:b∈c.bl):B<=b/\b<w.heap.size:=by
 unfold Cw.bl at hb;rcases List.mem_append.1 hb with hb|hb
 ·obtain ⟨h1,cs,h2⟩:=h.rowAt (by simpa using hb);exact ⟨h1,As h2⟩
 ·cases hs:c.sq with
  |none=>rw[hs]at hb;cases hb
  |some p=>
   obtain ⟨g,t⟩:=p;obtain ⟨q,-⟩:=h.EL hs;rw[hs]at hb;rcases List.mem_cons.1 hb with rfl|hb
   ·exact ⟨q.base,q.gLt⟩
   ·exact ⟨q.Yk b hb,q.wA b hb⟩
theorem lC.kinds{w:World}{g b:Nat}{t:Ht}(h:G9 B w g t)(k:lC w g b):(b=g/\∃rv,w.heap[b]?=some (.cells #[rv] 211))\/(B<=b/\∃cs,w.heap[b]?=some (.cells cs 249))\/(b∈t.CW/\∃cs,w.heap[b]?=some (.cells cs 61)):=by
 obtain ⟨rv,hg,_,F,hF,mo⟩:=h.obj;rcases k with rfl|⟨t',z8,F',k1,k2,k3⟩
 ·exact .inl ⟨rfl,rv,hg⟩
 ·rw[hg]at k1;simp only[Option.some.injEq,Obj.cells.injEq,and_true]at k1;obtain rfl:rv=z8:=by simpa using k1
  obtain ⟨rfl,rfl⟩:=hF.only k2;rcases hF.kinds b k3 with q|⟨q1,q2⟩
  ·exact .inr (.inl ⟨mo b k3,q⟩)
  ·exact .inr (.inr ⟨q1,q2⟩)
theorem lC.apart{w:World}{g g' b:Nat}{t t':Ht}(h:G9 B w g t)(h':G9 B w g' t')(hg:g≠g')(hd:∀x∈t.CW,x∉t'.CW)(k:lC w g b):¬lC w g' b:=by
 intro k';rcases k.kinds h with ⟨rfl,rv,e⟩|⟨_,cs,e⟩|⟨m,cs,e⟩
 ·rcases k'.kinds h' with ⟨rfl,_⟩|⟨_,cs,e2⟩|⟨m2,cs,e2⟩
  ·exact hg rfl
  ·rw[e]at e2;cases e2
  ·rw[e]at e2;cases e2
 ·rcases k'.kinds h' with ⟨rfl,rv,e2⟩|⟨_,cs,e2⟩|⟨m2,cs,e2⟩
  ·rw[e]at e2;cases e2
  ·
   obtain ⟨rv1,ci,_,F1,hF1,_⟩:=h.obj;obtain ⟨rv2,pj,_,F2,xF,_⟩:=h'.obj;rcases k with rfl|⟨t1,r1,G1,a1,a2,a3⟩
   ·rw[ci]at e;cases e
   rcases k' with rfl|⟨t2,r2,G2,b1,b2,b3⟩
   ·rw[pj]at e2;cases e2
   rw[ci]at a1;rw[pj]at b1;simp only[Option.some.injEq,Obj.cells.injEq,and_true]at a1 b1;obtain rfl:rv1=r1:=by simpa using a1
   obtain rfl:rv2=r2:=by simpa using b1
   obtain ⟨rfl,rfl⟩:=hF1.only a2;obtain ⟨rfl,rfl⟩:=xF.only b2;exact hF1.apart xF hd b a3 b3
  ·exact F_ e e2
 ·rcases k'.kinds h' with ⟨rfl,rv,e2⟩|⟨_,cs,e2⟩|⟨m2,cs,e2⟩
  ·rw[e]at e2;cases e2
  ·exact F_ e2 e
  ·exact hd b m m2
theorem RU.apart{w:World}{v v':Value}{c c':Cw}{l l':Qs}(h:BU B w v c l)(h':BU B w v' c' l')(hd:∀x∈c.bl,x∉c'.bl){b:Nat}(k:RU w c b):¬RU w c' b:=by
 intro k';rcases k with k|⟨g,t,k1,k2⟩
 ·obtain ⟨_,cs,e⟩:=h.rowAt k;rcases k' with k'|⟨g',t',k3,k4⟩
  ·exact hd b (LU.bl (.inl k)) (LU.bl (.inl k'))
  ·rcases k4.kinds (h'.EL k3).1 with ⟨_,rv,e2⟩|⟨_,cs,e2⟩|⟨_,cs,e2⟩
   ·rw[e]at e2;cases e2
   ·rw[e]at e2;cases e2
   ·rw[e]at e2;cases e2
 ·rcases k' with k'|⟨g',t',k3,k4⟩
  ·obtain ⟨_,cs,e⟩:=h'.rowAt k';rcases k2.kinds (h.EL k1).1 with ⟨_,rv,e2⟩|⟨_,cs,e2⟩|⟨_,cs,e2⟩
   ·rw[e]at e2;cases e2
   ·rw[e]at e2;cases e2
   ·rw[e]at e2;cases e2
  ·refine k2.apart (h.EL k1).1 (h'.EL k3).1 (fun e=>?_) (fun x hx hx'=>?_) k4
   ·subst e;exact hd g (LU.bl (.inr ⟨g,t,k1,rfl⟩)) (LU.bl (.inr ⟨g,t',k3,rfl⟩))
   ·refine hd x ?_ ?_
    ·unfold Cw.bl;rw[k1];simp[hx]
    ·unfold Cw.bl;rw[k3];simp[hx']
theorem RU.kinds{w:World}{v:Value}{c:Cw}{l:Qs}(h:BU B w v c l){b:Nat}(k:RU w c b):B<=b/\(b∈c.bl\/∃cs,w.heap[b]?=some (.cells cs 249)):=by
 rcases k with k|⟨g,t,k1,k2⟩
 ·exact ⟨(h.rowAt k).1,.inl (LU.bl (.inl k))⟩
 ·have q:=(h.EL k1).1;rcases k2.kinds q with ⟨rfl,_⟩|⟨h1,h2⟩|⟨m,_⟩
  ·exact ⟨q.base,.inl (LU.bl (.inr ⟨b,t,k1,rfl⟩))⟩
  ·exact ⟨h1,.inr h2⟩
  ·exact ⟨q.Yk b m,.inl (by unfold Cw.bl;rw[k1];simp[m])⟩
theorem BU.Hz{w:World}{v:Value}{c:Cw}{l:Qs}(h:BU B w v c l):D8 l/\l.length<=45000:=by
 rcases h.2 with ⟨_,rfl,_⟩|⟨g,t,_,rfl,q,_⟩
 ·exact ⟨D8.nil,Ar⟩
 ·exact ⟨q.ok.Hz,q.ok.most⟩
end
section
variable {B:Nat}
theorem BU.Rj{w:World}{v:Value}{c:Cw}{l:Qs}(h:BU B w v c l)(hs:c.sq=none):l=[]/\∃A cap,v=.slice A 0 cap:=by
 rcases h.2 with ⟨_,h2,h3⟩|⟨g,t,h1,_⟩
 ·refine ⟨h2,?_⟩;rcases h3.2 with ⟨rfl,_⟩|⟨b,cap,cur,rfl,_⟩
  ·exact ⟨_,_,rfl⟩
  ·exact ⟨_,_,rfl⟩
 ·rw[hs]at h1;cases h1
theorem BU.KW{w:World}{v:Value}{c:Cw}{l:Qs}(h:BU B w v c l){g:Nat}{t:Ht}(hs:c.sq=some (g,t)):∃b cap cur,v=.slice (some ⟨b,0,none⟩) 1 cap/\c.row=some b/\B<=b/\w.heap[b]?=some (.cells cur 166)/\cur[0]?=some (Mg g)/\1<=cap/\cap<=maxLen/\cur.size=cap:=by
 rcases h.2 with ⟨h1,_⟩|⟨g',t',h1,h2,h3,h4⟩
 ·rw[hs]at h1;cases h1
 ·rw[hs]at h1;cases h1;rcases h4.2 with ⟨_,e⟩|⟨b,cap,cur,rfl,k1,k2,k3,k4,k5,k6⟩
  ·cases e
  ·refine ⟨b,cap,cur,rfl,h.1.symm,k1,k2,?_,k3,k4,AD⟩;have e:(cur.toList.take (1*1))[0]?=[Mg g][0]?:=by rw[k6]
   rw[List.getElem?_take_of_lt AD,Array.getElem?_toList]at e;rw[e];rfl
structure Hs(B:Nat)(w:World)(b g:Nat)(t:Ht):Prop where
 cell:w.cell? ⟨b,0,none⟩=some (.pointer (some ⟨g,0,none⟩))
 lt:b<w.heap.size
 q:G9 B w g t
theorem Hs.later{w w':World}{b g:Nat}{t:Ht}(h:Hs B w b g t)(a:AA w w'):Hs B w' b g t:=⟨(a.below.cell h.lt).trans h.cell,Nat.lt_of_lt_of_le h.lt a.below.size,h.q.later a⟩
theorem BU.one{w:World}{v:Value}{c:Cw}{l:Qs}(h:BU B w v c l){g:Nat}{t:Ht}(hs:c.sq=some (g,t)):∃b cap,v=.slice (some ⟨b,0,none⟩) 1 cap/\Hs B w b g t/\t.hs=l:=by
 obtain ⟨b,cap,cur,e,_,_,k1,k2,_⟩:=h.KW hs;exact ⟨b,cap,e,⟨by rw[AE k1];exact k2,As k1,(h.EL hs).1⟩,(h.EL hs).2⟩
theorem BU.cases{w:World}{v:Value}{c:Cw}{l:Qs}(h:BU B w v c l):(c.sq=none/\l=[]/\∃A cap,v=.slice A 0 cap)\/∃b cap g t,c.sq=some (g,t)/\v=.slice (some ⟨b,0,none⟩) 1 cap/\Hs B w b g t/\t.hs=l:=by
 cases hs:c.sq with
 |none=>exact .inl ⟨rfl,h.Rj hs⟩
 |some p=>
  obtain ⟨g,t⟩:=p;obtain ⟨b,cap,e,k,e2⟩:=h.one hs;exact .inr ⟨b,cap,g,t,rfl,e,k,e2⟩
theorem WR(A:Option Addr)(cap:Nat)(w:World):Calls prog 92 #[.agg #[.slice A 0 cap]] w fun e w'=>e=.returned (.int .i64 0)/\AA w w':=by
 go_enter func92,ntmps92;go_wp2_with fail;refine wp_loop_rounds 1 ?_;rw[rounds_succ];go_wp2_with fail;go_ret;exact ⟨rfl,BQ⟩
theorem Yy(b cap g:Nat)(t:Ht)(w:World)(h:Hs B w b g t):Calls prog 92 #[.agg #[.slice (some ⟨b,0,none⟩) 1 cap]] w fun e w'=>e=.returned (.int .i64 (t.hs.length:Int))/\AA w w':=by
 have HL:=AC (fun (w':World) (a:AA w w')=>CX (.pointer (some ⟨g,0,none⟩)) t w' (h.q.q.Di.later a) h.q.fit);have hm:=h.q.ok.most;have HC:=AC h;clear h;generalize t.hs.length=n at *;go_enter func92,ntmps92;go_wp2_with fail;refine JL w (w.heap.size) (.cells #[.slice (some ⟨b,0,none⟩) 1 cap] 114) ?_;intro w1 AJ AH;have AG:=AJ;have c1:=(HC.out.later AG).cell;refine wp_loop_rounds 2 ?_;rw[rounds_succ];go_wp2_with fail;refine (HL _ AG).mono ?_;rintro e w2 ⟨rfl,AL⟩;have AR:=AG.trans AL;go_wp2_with fail;rw[rounds_succ];go_wp2_with fail;go_ret;exact ⟨by go_num,AR⟩
theorem MB(v:Value)(c:Cw)(l:Qs)(w:World)(h:BU B w v c l):Calls prog 92 #[.agg #[v]] w fun e w'=>e=.returned (.int .i64 (l.length:Int))/\AA w w':=by
 rcases h.cases with ⟨_,rfl,A,cap,rfl⟩|⟨b,cap,g,t,_,rfl,k,rfl⟩
 ·exact WR A cap w
 ·exact Yy b cap g t w k
theorem RV(A:Option Addr)(cap:Nat)(i:Int)(w:World):Calls prog 142 #[.agg #[.slice A 0 cap],.int .i64 i] w fun e w'=>e=.returned (.tuple #[.pointer none,.int .i64 0])/\AA w w':=by
 go_enter func142,ntmps142;go_wp2_with fail;refine wp_loop_rounds 1 ?_;rw[rounds_succ];go_wp2_with fail;refine bodyPost_ret (v:=.tuple #[.pointer none,.int .i64 0]) (by simp[results,results142,go_sem]) rfl ⟨rfl,?_⟩;exact BQ
theorem Ul(b cap g:Nat)(t:Ht)(i:Int)(w:World)(h:Hs B w b g t)(hi:i<t.hs.length):Calls prog 142 #[.agg #[.slice (some ⟨b,0,none⟩) 1 cap],.int .i64 i] w fun e w'=>e=.returned (.tuple #[.pointer (some ⟨g,0,none⟩),.int .i64 i])/\AA w w':=by
 have HL:=AC (fun (w':World) (a:AA w w')=>CX (.pointer (some ⟨g,0,none⟩)) t w' (h.q.q.Di.later a) h.q.fit);have HC:=AC h;clear h;generalize t.hs.length=n at *;go_enter func142,ntmps142;go_wp2_with fail;refine JL w (w.heap.size) (.cells #[.slice (some ⟨b,0,none⟩) 1 cap] 114) ?_;intro w1 AJ AH;have AG:=AJ;have c1:=(HC.out.later AG).cell;refine wp_loop_rounds 2 ?_;rw[rounds_succ];go_wp2_with fail;refine (HL _ AG).mono ?_;rintro e w2 ⟨rfl,AL⟩;have AR:=AG.trans AL;go_wp2_with fail;refine bodyPost_ret (v:=.tuple #[.pointer (some ⟨g,0,none⟩),.int .i64 i]) (by simp[results,results142,go_sem]) rfl ⟨rfl,?_⟩;exact AR
theorem UC(b cap g:Nat)(t:Ht)(i:Int)(w:World)(h:Hs B w b g t)(hi:¬i<t.hs.length):Calls prog 142 #[.agg #[.slice (some ⟨b,0,none⟩) 1 cap],.int .i64 i] w fun e w'=>e=.returned (.tuple #[.pointer none,.int .i64 0])/\AA w w':=by
 have HL:=AC (fun (w':World) (a:AA w w')=>CX (.pointer (some ⟨g,0,none⟩)) t w' (h.q.q.Di.later a) h.q.fit);have HC:=AC h;clear h;generalize t.hs.length=n at *;have d0:decide (i<(n:Int))=false:=decide_eq_false hi;go_enter func142,ntmps142;go_wp2_with fail;refine JL w (w.heap.size) (.cells #[.slice (some ⟨b,0,none⟩) 1 cap] 114) ?_;intro w1 AJ AH;have AG:=AJ;have c1:=(HC.out.later AG).cell;refine wp_loop_rounds 2 ?_;rw[rounds_succ];go_wp2_with fail;refine (HL _ AG).mono ?_;rintro e w2 ⟨rfl,AL⟩;have AR:=AG.trans AL;go_wp2_with fail;refine (HL _ AR).mono ?_;rintro e w3 ⟨rfl,AX⟩;have An:=AR.trans AX;go_wp2_with fail;rw[rounds_succ];go_wp2_with fail;refine bodyPost_ret (v:=.tuple #[.pointer none,.int .i64 0]) (by simp[results,results142,go_sem]) rfl ⟨rfl,?_⟩;exact An
def re(c:Cw)(i:Int):Value:=match c.sq with
 |none=>.tuple #[.pointer none,.int .i64 0]
 |some (g,t)=>if i<t.hs.length then .tuple #[.pointer (some ⟨g,0,none⟩),.int .i64 i] else .tuple #[.pointer none,.int .i64 0]
theorem Fi(v:Value)(c:Cw)(l:Qs)(i:Int)(w:World)(h:BU B w v c l):Calls prog 142 #[.agg #[v],.int .i64 i] w fun e w'=>e=.returned (re c i)/\AA w w':=by
 unfold re;rcases h.cases with ⟨hs,rfl,A,cap,rfl⟩|⟨b,cap,g,t,hs,rfl,k,rfl⟩
 ·rw[hs];exact RV A cap i w
 ·rw[hs];by_cases hi:i<t.hs.length
  ·simp only[hi,if_true];exact Ul b cap g t i w k hi
  ·simp only[hi,if_false];exact UC b cap g t i w k hi
theorem BU.wi{w:World}{v:Value}{c:Cw}{l:Qs}(h:BU B w v c l)(i:Int):(re c i=.tuple #[.pointer none,.int .i64 0]/\¬(0<=i/\i<l.length))\/∃g t,c.sq=some (g,t)/\re c i=.tuple #[.pointer (some ⟨g,0,none⟩),.int .i64 i]/\G9 B w g t/\t.hs=l/\i<l.length:=by
 unfold re;rcases h.cases with ⟨hs,rfl,A,cap,rfl⟩|⟨b,cap,g,t,hs,rfl,k,rfl⟩
 ·rw[hs];exact .inl ⟨rfl,by simp only[List.length_nil];omega⟩
 ·rw[hs];by_cases hi:i<t.hs.length
  ·exact .inr ⟨g,t,rfl,by simp only[hi,if_true],k.q,rfl,hi⟩
  ·exact .inl ⟨by simp only[hi,if_false],AD⟩
theorem Nv{l:Qs}{i:Int}(h:¬(0<=i/\i<l.length)):NX l i=.tuple #[.agg #[.int .i64 0,.int .i64 0],.bool false]:=by unfold NX;rw[dif_neg h]
theorem QP(l:Qs)(i:Int):∃a b ok,NX l i=.tuple #[.agg #[.int .i64 a,.int .i64 b],.bool ok]:=by
 unfold NX;split
 ·exact ⟨_,_,_,rfl⟩
 ·exact ⟨_,_,_,rfl⟩
theorem Qm(v pv:Value)(i k a b:Int)(ok:Bool)(w:World)
 (HW:∀w',AA w w'->Calls prog 142 #[.agg #[v],.int .i64 i] w' fun e Bg=>e=.returned (.tuple #[pv,.int .i64 k])/\AA w' Bg)
 (HG:∀w',AA w w'->Calls prog 143 #[pv,.int .i64 k] w' fun e Bg=>e=.returned (.tuple #[.agg #[.int .i64 a,.int .i64 b],.bool ok])/\AA w' Bg)
 (hp:∃q,pv=.pointer q) (hv:∃A n cap,v=.slice A n cap):
 Calls prog 94 #[.agg #[v],.int .i64 i] w fun e w'=>e=.returned (.tuple #[.agg #[.int .i64 a,.int .i64 b],.bool ok])/\AA w w':=by
 have HW:=AC HW;have HG:=AC HG;obtain ⟨q,rfl⟩:=hp;obtain ⟨A,n,cap,rfl⟩:=hv;go_enter func94,ntmps94;go_wp2_with fail;refine AQ (fun wS=>AA w wS/\wS.heap[w.heap.size]?=some (.cells #[.slice A n cap] 114)/\wS.heap[w.heap.size+1]?=some (.cells #[.int .i64 0,.int .i64 0] 61)) ⟨BQ,CG,CG⟩ ?_;rintro w1 ⟨AJ,AH,Aq⟩;have AG:=AJ;refine (HW _ AG).mono ?_;rintro e w2 ⟨rfl,AL⟩;have AR:=AG.trans AL;have BH:=AB AL Aq;go_wp2_with fail;refine (HG _ AR).mono ?_;rintro e w3 ⟨rfl,AX⟩;have An:=AR.trans AX;have BD:=AB AX BH;obtain ⟨Dm,FE⟩:=DX BD;go_wp2_with fail;refine bodyPost_ret (v:=.tuple #[.agg #[.int .i64 a,.int .i64 b],.bool ok]) (by simp[results,results94,go_sem, *]) rfl ⟨rfl,?_⟩;exact BQ
theorem BU.OL{w:World}{v:Value}{c:Cw}{l:Qs}(h:BU B w v c l):∃A n cap,v=.slice A n cap:=by
 rcases h.cases with ⟨hs,rfl,A,cap,rfl⟩|⟨b,cap,g,t,hs,rfl,k,rfl⟩
 ·exact ⟨_,_,_,rfl⟩
 ·exact ⟨_,_,_,rfl⟩
theorem NU(v:Value)(c:Cw)(l:Qs)(i:Int)(w:World)(r:Value)(hr:NX l i=r)(h:BU B w v c l):Calls prog 94 #[.agg #[v],.int .i64 i] w fun e w'=>e=.returned r/\AA w w':=by
 subst hr;rcases h.wi i with ⟨e,hn⟩|⟨g,t,hs,e,q,rfl,hi⟩
 ·rw[Nv hn];exact Qm v (.pointer none) i 0 0 0 false w (fun w' a=>by rw[<-e];exact Fi v c l i w' (h.later a)) (fun w' a=>S4 (.pointer none) .nil 0 w' _ (Nv (by simp[Ht.hs])) (.inl ⟨rfl,rfl⟩) Ht.Fit.nil) ⟨_,rfl⟩ h.OL
 ·obtain ⟨x,y,ok,e2⟩:=QP t.hs i;rw[e2];exact Qm v (.pointer (some ⟨g,0,none⟩)) i i x y ok w (fun w' a=>by rw[<-e];exact Fi v c _ i w' (h.later a)) (fun w' a=>S4 _ t i w' _ e2 (q.q.Di.later a) q.fit) ⟨_,rfl⟩ h.OL
end
section
variable {B:Nat}
theorem Kh{P:Program}(w:World)(ts:Array TypeId)(t:TypeId)(p q:Int):(Builtin.min_ ts t #[.int .i64 p,.int .i64 q]).run P w=.ok (.int .i64 (min p q)) w:=by
 rw[run_min_int2];split
 ·rw[Int.min_eq_right AD]
 ·rw[Int.min_eq_left AD]
theorem m6(a b:Int)(w:World):(Instr.field 61 (.agg #[.int .i64 a,.int .i64 b]) 1).run prog w=.ok (.int .i64 b) w:=AY
theorem ZA(A:Option Addr)(cap:Nat)(i:Int)(w:World):Calls prog 77 #[.agg #[.slice A 0 cap],.int .i64 i] w fun e w'=>e=.returned (.agg #[.int .i64 0,.int .i64 0])/\AA w w':=by
 go_enter func77,ntmps77;go_wp2_with fail;refine wp_loop_rounds 1 ?_;rw[rounds_succ];go_wp2_with fail;refine bodyPost_ret (v:=.agg #[.int .i64 0,.int .i64 0]) (by simp[results,results77,go_sem, *]) rfl ⟨rfl,?_⟩;exact BQ
theorem bc(b cap g:Nat)(t:Ht)(i:Int)(w:World)(R Hh:Int)(hR:DL (t.hs.take (JR t.hs i))=R)(hH:DG (t.hs.take (JR t.hs i))=Hh)(h:Hs B w b g t):Calls prog 77 #[.agg #[.slice (some ⟨b,0,none⟩) 1 cap],.int .i64 i] w fun e w'=>e=.returned (.agg #[.int .i64 R,.int .i64 Hh])/\AA w w':=by
 have hb:=h.q.ok.Hz.bound (by have:=h.q.ok.most;omega) (JR t.hs i);rw[hR,hH]at hb;have HS:=AC (fun (w':World) (a:AA w w')=>dL (.pointer (some ⟨g,0,none⟩)) t i w' R Hh hR hH (h.q.q.Di.later a) h.q.fit);have HL:=AC (fun (w':World) (a:AA w w')=>CX (.pointer (some ⟨g,0,none⟩)) t w' (h.q.q.Di.later a) h.q.fit);have HC:=AC h;obtain ⟨⟨b1,b2⟩,b3,b4⟩:=hb;clear h hR hH;generalize t.hs.length=n at *;obtain ⟨z,hz⟩:=BZ (min i (n:Int));have vp:∀(w:World) (ts:Array TypeId) (ty:TypeId),(Builtin.min_ ts ty #[.int .i64 i,.int .i64 (n:Int)]).run prog w=.ok (.int .i64 z) w:=fun w ts ty=>by rw[Kh,hz]
 clear hz;go_enter func77,ntmps77;go_wp2_with fail;refine BW (fun wS=>AA w wS/\wS.heap[w.heap.size]?=some (.cells #[.slice (some ⟨b,0,none⟩) 1 cap] 114)/\wS.heap[w.heap.size+1]?=some (.cells #[.int .i64 0,.int .i64 0] 61)/\wS.heap[w.heap.size+2]?=some (.cells #[.int .i64 0,.int .i64 0] 61)) ⟨BQ,CG,CG,CG⟩ ?_;rintro w1 ⟨AJ,AH,Aq,DA⟩;have AG:=AJ;have c1:=(HC.out.later AG).cell;refine wp_loop_rounds 2 ?_;rw[rounds_succ];go_wp2_with fail;refine (HS _ AG).mono ?_;rintro e w2 ⟨rfl,AL⟩;have AR:=AG.trans AL;have AU:=AB AL AH;have BH:=AB AL Aq;have DM:=AB AL DA;have GV:=As AU;have Qy:=As BH;obtain ⟨OK,R7,Z_⟩:=GH DM;go_wp2_with fail;refine AQ (fun wS=>AA w wS/\wS.heap[w.heap.size]?=some (.cells #[.slice (some ⟨b,0,none⟩) 1 cap] 114)/\wS.heap[w.heap.size+1]?=some (.cells #[.int .i64 0,.int .i64 0] 61)/\wS.heap[w.heap.size+2]?=some (.cells #[.int .i64 R,.int .i64 Hh] 61)) ⟨BQ,CG,CG,CG⟩ ?_;rintro w3 ⟨AX,Ah,BD,Er⟩;have An:=AX;refine (HL _ An).mono ?_;rintro e w4 ⟨rfl,Ao⟩;have Bl:=An.trans Ao;have CE:=AB Ao BD;have So:=AB Ao Er;obtain ⟨Is,Me⟩:=DX CE;have uz:=AE So;go_wp2_with fail;rw[rounds_succ];go_wp2_with fail;refine bodyPost_ret (v:=.agg #[.int .i64 R,.int .i64 Hh]) (by simp[results,results77,go_sem, *]) rfl ⟨rfl,?_⟩;exact BQ
theorem S5(v:Value)(c:Cw)(l:Qs)(i:Int)(w:World)(R Hh:Int)(hR:DL (l.take (JR l i))=R)(hH:DG (l.take (JR l i))=Hh)(h:BU B w v c l):Calls prog 77 #[.agg #[v],.int .i64 i] w fun e w'=>e=.returned (.agg #[.int .i64 R,.int .i64 Hh])/\AA w w':=by
 rcases h.cases with ⟨_,rfl,A,cap,rfl⟩|⟨b,cap,g,t,_,rfl,k,rfl⟩
 ·rw[List.take_nil]at hR hH;subst hR;subst hH;exact ZA A cap i w
 ·exact bc b cap g t i w R Hh hR hH k
theorem jX(l:Qs):JR l (l.length:Int)=l.length:=by
 unfold JR Cq;split
 ·omega
 ·split <;> omega
end
section
variable {B:Nat}
def Q_(B:Nat)(w:World)(v:Value)(c:Cw)(l:Qs)(w':World):Prop:=∃c',BU B w' v c' l/\c'.bl=c.bl/\AZ (RU w c) w w'
theorem Q_.same{w w':World}{v:Value}{c:Cw}{l:Qs}(h:BU B w v c l)(a:AA w w'):Q_ B w v c l w':=⟨c,h.later a,rfl,.of a⟩
theorem lC.back{w w2:World}{g b:Nat}{t:Ht}(h:G9 B w g t)(a:AA w w2)(k:lC w2 g b):lC w g b:=by
 obtain ⟨rv,hg,_,F,hF,_⟩:=h.obj;rcases k with rfl|⟨t',z8,F',k1,k2,k3⟩
 ·exact .inl rfl
 ·rw[AB a hg]at k1;simp only[Option.some.injEq,Obj.cells.injEq,and_true]at k1;obtain rfl:rv=z8:=by simpa using k1
  obtain ⟨rfl,rfl⟩:=(hF.later a).only k2;exact .inr ⟨t,rv,F,hg,hF,k3⟩
theorem BU.aN{w:World}{v:Value}{c:Cw}{l:Qs}(h:BU B w v c l){g:Nat}{t:Ht}(hs:c.sq=some (g,t)):w.ownsRow B 166 1 v 1 [Mg g]:=by
 rcases h.2 with ⟨h1,_⟩|⟨g',t',h1,_,_,h4⟩
 ·rw[hs]at h1;cases h1
 ·rw[hs]at h1;cases h1;exact h4
theorem Q_.of{w w2 w3:World}{v:Value}{c:Cw}{l l2:Qs}{g:Nat}{t:Ht}(h:BU B w v c l)(hs:c.sq=some (g,t))(a:AA w w2)(q:Vc B w2 g t l2 w3):Q_ B w v c l2 w3:=by
 obtain ⟨⟨t',k1,k2,k3⟩,st⟩:=q;have h2:=h.later a;refine ⟨⟨c.row,some (g,t')⟩,⟨h.1,.inr ⟨g,t',rfl,k2,k1,Ct (h2.aN hs) st (fun b hb hc=>?_)⟩⟩,?_,(AZ.of a).more st (fun b hb=>.inl (.inr ⟨g,t,hs,hb.back (h.EL hs).1 a⟩))⟩
 ·rw[h.1]at hb;obtain ⟨_,cs,e⟩:=h2.rowAt hb;rcases hc.kinds (h2.EL hs).1 with ⟨_,rv,e2⟩|⟨_,cs,e2⟩|⟨_,cs,e2⟩
  ·rw[e]at e2;cases e2
  ·rw[e]at e2;cases e2
  ·rw[e]at e2;cases e2
 ·unfold Cw.bl;rw[hs];dsimp only;rw[k3]
theorem Pp{Q:World->Prop}(v pv:Value)(i k x y r:Int)(w:World)
 (HW:∀w',AA w w'->Calls prog 142 #[.agg #[v],.int .i64 i] w' fun e Bg=>e=.returned (.tuple #[pv,.int .i64 k])/\AA w' Bg)
 (HS:∀w',AA w w'->Calls prog 190 #[pv,.int .i64 k,.agg #[.int .i64 x,.int .i64 y]] w' fun e Bg=>e=.returned (.int .i64 r)/\Q Bg)
 (hp:∃q,pv=.pointer q) (hv:∃A n cap,v=.slice A n cap):
 Calls prog 149 #[.agg #[v],.int .i64 i,.agg #[.int .i64 x,.int .i64 y]] w fun e w'=>e=.returned (.int .i64 r)/\Q w':=by
 have HW:=AC HW;have HS:=AC HS;obtain ⟨q,rfl⟩:=hp;obtain ⟨A,n,cap,rfl⟩:=hv;go_enter func149,ntmps149;go_wp2_with fail;refine AQ (fun wS=>AA w wS/\wS.heap[w.heap.size]?=some (.cells #[.slice A n cap] 114)/\wS.heap[w.heap.size+1]?=some (.cells #[.int .i64 x,.int .i64 y] 61)) ⟨BQ,CG,CG⟩ ?_;rintro w1 ⟨AJ,AH,Aq⟩;have AG:=AJ;refine (HW _ AG).mono ?_;rintro e w2 ⟨rfl,AL⟩;have AR:=AG.trans AL;have BH:=AB AL Aq;have Gl:=AE BH;go_wp2_with fail;refine (HS _ AR).mono ?_;rintro e w3 ⟨rfl,hq⟩;have HQ:=AC hq;clear hq;go_wp2_with fail;go_ret;exact ⟨rfl,HQ.out⟩
theorem LN(v:Value)(c:Cw)(l:Qs)(i x y:Int)(w:World)(h:BU B w v c l):Calls prog 149 #[.agg #[v],.int .i64 i,.agg #[.int .i64 x,.int .i64 y]] w fun e w'=>e=.returned (.int .i64 (IU l i (x,y)))/\Q_ B w v c (Fd l i (x,y)) w':=by
 rcases h.wi i with ⟨e,hn⟩|⟨g,t,hs,e,q,rfl,hi⟩
 ·have e1:IU l i (x,y)=1:=by unfold IU;rw[if_pos hn]
  have e2:Fd l i (x,y)=l:=by unfold Fd;rw[if_neg (by rw[e1];decide)]
  rw[e1,e2];exact Pp v (.pointer none) i 0 x y 1 w (fun w' a=>by rw[<-e];exact Fi v c l i w' (h.later a)) (fun w' a=>(OA (.pointer none) .nil 0 x y w' (.inl ⟨rfl,rfl⟩) Ht.Fit.nil (by simp[Ht.hs])).mono fun e Bg ⟨k1,k2⟩=>⟨k1,Q_.same h (a.trans k2)⟩) ⟨_,rfl⟩ h.OL
 ·exact Pp v (.pointer (some ⟨g,0,none⟩)) i i x y _ w (fun w' a=>by rw[<-e];exact Fi v c _ i w' (h.later a)) (fun w' a=>(jD g t i x y w' (q.later a)).mono fun e Bg ⟨k1,k2⟩=>⟨k1,Q_.of h hs a k2⟩) ⟨_,rfl⟩ h.OL
theorem Vs(g:Nat)(t:Ht)(e:Bool)(w:World)(h:G9 B w g t)(he:decide (t.hs.length=0)=e):Calls prog 225 #[.pointer (some ⟨g,0,none⟩)] w fun u w'=>u=.returned (.bool e)/\AA w w':=by
 have HL:=AC (fun (w':World) (a:AA w w')=>CX (.pointer (some ⟨g,0,none⟩)) t w' (h.q.Di.later a) h.fit);have HE:Hid (((t.hs.length:Int) == 0)=e):=AC (by rw[<-he];cases hd:decide (t.hs.length=0) <;> simp_all);clear h he;generalize t.hs.length=n at *;go_enter func225,ntmps225;go_wp2_with fail;refine (HL _ (AA.refl w)).mono ?_;rintro u w1 ⟨rfl,b1⟩;have HB:=AC b1;have hE:=HE.out;clear b1;go_wp2_with fail;go_ret;exact ⟨rfl,HB.out⟩
theorem Vz:∀args w,(callFunc 225 args).run prog w=.ok (.enter 225 args) w:=enters_of func225 AY rfl
theorem du(A:Option Addr)(cap:Nat)(w:World):Calls prog 257 #[.slice A 0 cap,.func (.func 225) #[] #[]] w fun u w'=>u=.returned (.int .i64 (-1))/\AA w w':=by
 go_enter func257,ntmps257;go_wp2_with fail;refine wp_loop_rounds 1 ?_;rw[rounds_succ];go_wp2_with fail;go_ret;exact ⟨rfl,AA.refl w⟩
theorem Ua(b cap g:Nat)(t:Ht)(w:World)(h:Hs B w b g t):Calls prog 257 #[.slice (some ⟨b,0,none⟩) 1 cap,.func (.func 225) #[] #[]] w fun u w'=>u=.returned (.int .i64 (if t.hs.length=0 then 0 else -1))/\AA w w':=by
 have US:=Vz;have c1:=h.cell;by_cases h0:t.hs.length=0
 ·have H1:=AC (fun (w':World) (a:AA w w')=>Vs g t true w' (h.q.later a) (decide_eq_true h0));rw[if_pos h0];clear h h0;go_enter func257,ntmps257;go_wp2_with fail;refine wp_loop_rounds 2 ?_;rw[rounds_succ];go_wp2_with fail;refine (H1 _ (AA.refl w)).mono ?_;rintro u w1 ⟨rfl,b1⟩;have HB:=AC b1;clear b1;go_wp2_with fail;go_ret;exact ⟨rfl,HB.out⟩
 ·have H1:=AC (fun (w':World) (a:AA w w')=>Vs g t false w' (h.q.later a) (decide_eq_false h0));rw[if_neg h0];clear h h0;go_enter func257,ntmps257;go_wp2_with fail;refine wp_loop_rounds 2 ?_;rw[rounds_succ];go_wp2_with fail;refine (H1 _ (AA.refl w)).mono ?_;rintro u w1 ⟨rfl,b1⟩;have HB:=AC b1;clear b1;go_wp2_with fail;rw[rounds_succ];go_wp2_with fail;go_ret;exact ⟨rfl,HB.out⟩
theorem ae(w:World):(Go.sizeOf (prog.elem 112)).run prog w=.ok 1 w:=by simp[go_sem]
theorem zG(A:Option Addr)(n cap i:Nat)(h2:i<=cap)(w:World):(Instr.sliceAt 112 (.slice A n cap) none (some (.int .i64 (i:Int))) none).run prog w=.ok (.slice A i cap) w:=by
 have eA:(if cap=0 then A else A.map (fun x=>x.add 0))=A:=by
  split
  ·rfl
  ·cases A with
   |none=>rfl
   |some a=>simp[Addr.add]
 rw[run_sliceAt_slice w _ _ _ _ _ underlying112,run_slice_h w _ A n cap underlying112 .i64 (i:Int) AD AD];rw[ae];simp only[Result.andThen,sliced,Int.toNat_natCast,Nat.sub_zero,Nat.zero_mul];rw[eA]
theorem ow(g o n cap i:Nat)(h1:i<=n)(h2:n<=cap)(w:World):(Instr.sliceAt 112 (.slice (some ⟨g,o,none⟩) n cap) (some (.int .i64 (i:Int))) none none).run prog w=.ok (.slice (some ⟨g,if cap=i then o else o+i,none⟩) (n-i) (cap-i)) w:=by
 rw[run_sliceAt_slice w _ _ _ _ _ underlying112,run_slice_l w _ (some ⟨g,o,none⟩) n cap underlying112 .i64 (i:Int) AD AD];rw[ae];simp only[Result.andThen,sliced,Int.toNat_natCast,Nat.mul_one];split
 ·rfl
 ·rw[Option.map_some,Db]
theorem Xt(A:Option Addr)(cap:Nat)(w:World):Calls prog 224 #[.slice A 0 cap,.func (.func 225) #[] #[]] w fun u w'=>u=.returned (.slice A 0 cap)/\AA w w':=by
 have HX:=AC (fun (w':World)=>du A cap w');go_enter func224,ntmps224;go_wp2_with fail;refine (HX _).mono ?_;rintro e w1 ⟨rfl,AJ⟩;have AG:=AJ;go_wp2_with fail;go_ret;exact ⟨rfl,AG⟩
theorem ZD(b cap g:Nat)(t:Ht)(w:World)(h:Hs B w b g t)(h0:t.hs.length≠0):Calls prog 224 #[.slice (some ⟨b,0,none⟩) 1 cap,.func (.func 225) #[] #[]] w fun u w'=>u=.returned (.slice (some ⟨b,0,none⟩) 1 cap)/\AA w w':=by
 have HX:=AC (fun (w':World) (a:AA w w')=>Ua b cap g t w' (h.later a));rw[if_neg h0]at HX;clear h h0;go_enter func224,ntmps224;go_wp2_with fail;refine (HX _ (AA.refl w)).mono ?_;rintro e w1 ⟨rfl,AJ⟩;have AG:=AJ;go_wp2_with fail;go_ret;exact ⟨rfl,AG⟩
theorem nW:∀w,(zeroValue 166).run prog w=.ok (.pointer none) w:=fun w=>by simp[go_sem]
theorem Xp(b cap g:Nat)(t:Ht)(cur:Array Value)(w:World)(h:Hs B w b g t)(h0:t.hs.length=0)(hb:w.heap[b]?=some (.cells cur 166))(hc:1<=cap)(hs:cur.size=cap):Calls prog 224 #[.slice (some ⟨b,0,none⟩) 1 cap,.func (.func 225) #[] #[]] w fun u w'=>u=.returned (.slice (some ⟨b,0,none⟩) 0 cap)/\∃w1,AA w w1/\w'=w1.setCell ⟨b,0,none⟩ (.pointer none):=by
 have HX:=AC (fun (w':World) (a:AA w w')=>Ua b cap g t w' (h.later a));rw[if_pos h0]at HX;have s1:=ow b 0 1 cap 0 AD hc;rw[if_neg AD]at s1;have yN:=AC (fun (w1:World) (a:AA w w1) (ty:TypeId)=>Lib.run_clear_slice (P:=prog) w1 112 166 ty (.pointer none) underlying112 nW rfl rfl b 0 1 cap AD (fun k hk=>by
  obtain rfl:k=0:=AD
  rw[Nat.zero_add,(h.later a).cell];rfl) (fun k hk=>by rw[Nat.zero_add];exact Bq (AB a hb) _))
 clear h h0 hb hs;go_enter func224,ntmps224;go_wp2_with fail;refine (HX _ (AA.refl w)).mono ?_;rintro e w1 ⟨rfl,AJ⟩;have AG:=AJ;have OW:=yN w1 AG;go_wp2_with fail;refine wp_loop_rounds 1 ?_;rw[rounds_succ];go_wp2_with fail;go_ret;exact ⟨rfl,w1,AG,rfl⟩
end
end Go.Proofs.YtamhnffokoejjaaGreatDoor
