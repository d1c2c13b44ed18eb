import Derived.Test.YtamhnffokoejjaaGreatDoorKwbj
import Derived.Test.YtamhnffokoejjaaGreatDoorKwbo
import Derived.Test.YtamhnffokoejjaaGreatDoorKwbc
import Derived.Test.YtamhnffokoejjaaGreatDoorKwbm
set_option linter.all false
set_option maxHeartbeats 3200000
set_option maxRecDepth 100000
namespace Go.Proofs.YtamhnffokoejjaaGreatDoor
open List(mem_of_getElem? getElem_mem length_append any_append any_cons any_nil length_take mem_cons)
open Go.Proofs.Tryz
open Go.RowKit
section
variable{cs:Array Value}{on:Bool}{wd:Int}{H:List Bool}{S X b l st:List Int}{K:List Nat}{B C f hg i s:Nat}{m:Nat × Nat}{A L M:Qs}{hv u v:Value}{w w':World}
def Oi(t:TypeId):Prop:=t=81\/t=146\/t=116\/t=166\/t=211\/t=249\/t=61
def Mv(B:Nat)(w:World)(b:Nat):Prop:=B<=b/\∃cs t m,w.heap[b]?=some (.cells cs t m)/\Oi t
def Ch(B:Nat)(w w':World):Prop:=AZ (Mv B w) w w'
theorem Ch.refl(B:Nat)(w:World):Ch B w w:=AZ.refl _ w
theorem Ch.of(a:AA w w'):Ch B w w':=AZ.of a
theorem Ch.trans{a b c:World}(h:Ch B a b)(k:Ch B b c):Ch B a c:=
 AZ.more h k (fun q hq=>by
  rcases Nat.lt_or_ge q a.heap.size with hl|hl
  ·by_cases hm:Mv B a q
   ·exact .inl hm
   ·exfalso;obtain ⟨h1,cs,t,m,h2,h3⟩:=hq;exact hm ⟨h1,cs,t,m,(h.block q hl hm).symm.trans h2,h3⟩
  ·exact .inr hl)
theorem Ch.any{W:World}(hW:AA W w)(hB:W.heap.size<=B)(h:Ch B w w'):AA W w':=AZ.any hW (fun _ hk=>Nat.le_trans hB hk.1) h
theorem Ch.own{k:Nat}{t:TypeId}(h:Ch B w w')(hk:w.heap[k]?=some (.cells cs t m))(ht:¬Oi t):w'.heap[k]?=some (.cells cs t m):=
 AZ.own h hk (fun ⟨_,La,t',m',h2,h3⟩=>by rw[hk]at h2;cases h2;exact ht h3)
theorem Ch.cell{b:Nat}{o:Nat}{t:TypeId}{x:Value}(h:Ch B w w')(hk:w.heap[b]?=some (.cells cs t m))(ht:¬Oi t)(hx:w.cell? ⟨b,o,none⟩=some x):w'.cell? ⟨b,o,none⟩=some x:=by
 have h2:=h.own hk ht;have e:∀{v:World},v.heap[b]?=some (.cells cs t m)->v.cell? ⟨b,o,none⟩=cs[o]?:=fun q=>by simp[World.cell?,q]
 rw[e h2,<-e hk];exact hx
theorem Tx:¬Oi 76:=by unfold Oi;decide
theorem Ot:¬Oi 69:=by unfold Oi;decide
theorem Js:¬Oi 3:=by unfold Oi;decide
theorem Jf:¬Oi 5:=by unfold Oi;decide
theorem oS:¬Oi 21:=by unfold Oi;decide
theorem ox:¬Oi 193:=by unfold Oi;decide
theorem oJ:¬Oi 135:=by unfold Oi;decide
theorem Mc.ch{l:Aa}(h:Mc w v l)(c:Ch B w w'):Mc w' v l:=by
 obtain ⟨⟨A,cap,rfl,h2,h3⟩,h4⟩:=h;refine ⟨⟨A,cap,rfl,h2,fun h0=>?_⟩,fun b hb=>?_⟩
 ·obtain ⟨b,off,rfl,hb,hc⟩:=h3 h0;obtain ⟨cs,FS⟩:=h4 b rfl;exact ⟨b,off,rfl,Nat.lt_of_lt_of_le hb c.size,fun j hj=>⟨c.cell FS Tx (hc j hj).1,c.cell FS Tx (hc j hj).2⟩⟩
 ·obtain ⟨cs,FS⟩:=h4 b hb;exact ⟨cs,c.own FS Tx⟩
theorem QT.ch{l:Qs}(h:QT w v l)(c:Ch B w w'):QT w' v l:=by
 obtain ⟨⟨A,cap,rfl,h2,h3⟩,h4⟩:=h;refine ⟨⟨A,cap,rfl,h2,fun h0=>?_⟩,fun b hb=>?_⟩
 ·obtain ⟨b,off,rfl,hb,hc⟩:=h3 h0;obtain ⟨cs,FS⟩:=h4 b rfl;exact ⟨b,off,rfl,Nat.lt_of_lt_of_le hb c.size,fun j hj=>⟨c.cell FS Ot (hc j hj).1,c.cell FS Ot (hc j hj).2⟩⟩
 ·obtain ⟨cs,FS⟩:=h4 b hb;exact ⟨cs,c.own FS Ot⟩
theorem RT.ch{k:IntKind}{t:TypeId}(h:RT k t w v l)(c:Ch B w w')(ht:¬Oi t):RT k t w' v l:=by
 obtain ⟨A,cap,h1,h2,h3⟩:=h;refine ⟨A,cap,h1,h2,fun h0=>?_⟩;obtain ⟨b,off,cs,m,e,hb,hc⟩:=h3 h0;exact ⟨b,off,cs,m,e,c.own hb ht,hc⟩
theorem CU.ch{B:Nat}{w w':World}(c:Ch B w w'):∀{t:Tr} {v:Value},CU w t v->CU w' t v
 |.nil,_,h=>h
 |.node l p r,v,h=>by
  obtain ⟨k,lv,rv,bv,fv,q1,q2,q3,q4,q5⟩:=h;exact ⟨k,lv,rv,bv,fv,q1,c.own q2 ox,CU.ch c q3,CU.ch c q4,q5.1.ch c Jf,q5.2.ch c oS⟩
theorem Gb.off{S:Nat->Prop}(h:Gb B w hg K L H)(st:AZ S w w')(hS:∀b,S b->∃cs t m,w.heap[b]?=some (.cells cs t m)/\(t=81\/t=146)):Gb B w' hg K L H:=
 h.stays st (fun b hb hs=>by
  obtain ⟨cs,t,m,e,q⟩:=hS b hs;obtain ⟨La,t',e',q'⟩:=HC.kind h hb;rw[e]at e';cases e'
  rcases q with rfl|rfl <;> rcases q' with q'|q'|⟨_,q'|q'|q'⟩ <;> exact absurd q' (by decide))
theorem HC.mv(h:Gb B w hg K L H){b:Nat}(hb:HC B w hg K b):Mv B w b:=by
 obtain ⟨cs,t,e,q⟩:=HC.kind h hb;refine ⟨?_,cs,t,_,e,?_⟩
 ·rcases hb with rfl|⟨q1,_⟩
  ·exact h.base
  ·exact q1
 ·unfold Oi;rcases q with q|q|⟨_,q|q|q⟩ <;> simp[q]
theorem Gb.mono(h:Gb B w hg K L H)(hC:C<=B):Gb C w hg K L H:=by
 obtain ⟨v1,v2,v3,c1,c2,c3,h0,h1,h2,h3,d⟩:=h.ex;exact ⟨⟨v1,v2,v3,c1,c2,c3,h0,h1.mono hC,h2.mono hC,h3.mono hC,d⟩,Nat.le_trans hC h.base,h.len⟩
structure Sc where
 b:List Int
 S:List Int
 F:Qs
 most:Int
 wd:Int
 ld:Int
structure ES where
 tg:Nat
 g:Nat
 hg:Nat
 t:Tr
 K:List Nat
 v1:Value
 v2:Value
 v3:Value
def KF(x:ES)(m:Sc):Array Value:= #[.pointer (some ⟨x.tg,0,none⟩),.int .i64 m.most,x.v1,x.v2,x.v3,.int .i64 m.wd,.pointer (some ⟨x.hg,0,none⟩),.int .i64 m.ld]
structure Sc.Ok(m:Sc):Prop where
 O6:BX m.b
 sl:m.S.length=m.b.length
 sg:∀s∈m.S,BL s=true
 len:m.b.length<=900
 fg:BJ m.b.length 0 m.F=true
 fl:m.F.length<=100
 most:(m.b.length:Int)<=m.most/\m.most<=16777216
 wd:1<=m.wd/\m.wd<=4096
 ld:0<=m.ld/\m.ld<=1000000000
structure Dr(B:Nat)(w:World)(s:Nat)(x:ES)(m:Sc)(b S:List Int)(L:Qs)(H:List Bool):Prop where
 CT:w.heap[s]?=some (.cells (KF x m) 81)
 tx:E4 w x.tg x.g m.most x.t
 tok:x.t.Ok
 tb:x.t.bs=b
 runs:Mc w x.v1 (BM S)
 ends:RT .i64 3 w x.v2 (Cu (BM S))
 Hl:QT w x.v3 m.F
 RF:Gb B w x.hg x.K L H
 bs:B<=s
 bg:B<=x.g
theorem Dr.later{x:ES}{m:Sc}(h:Dr B w s x m b S L H)(a:AA w w'):Dr B w' s x m b S L H:=
 ⟨AB a h.CT,h.tx.later a,h.tok,h.tb,h.runs.later a,h.ends.later a,h.Hl.later a,h.RF.later a,h.bs,h.bg⟩
theorem Dr.self{x:ES}{m:Sc}(h:Dr B w s x m b S L H):Mv B w s:=⟨h.bs,_,_,_,h.CT,.inl rfl⟩
theorem E4.zB{tg g:Nat}{most:Int}{t:Tr}(h:E4 w tg g most t)(c:Ch B w w')(hg:w'.heap[g]?=w.heap[g]?):E4 w' tg g most t:=by
 obtain ⟨h1,rv,h2,h3⟩:=h;exact ⟨c.own h1 oJ,rv,hg.trans h2,CU.ch c h3⟩
def rA(x:ES)(m:Sc)(hv:Value):Array Value:= #[.pointer (some ⟨x.tg,0,none⟩),.int .i64 m.most,x.v1,x.v2,x.v3,.int .i64 m.wd,hv,.int .i64 m.ld]
structure XK(w:World)(s:Nat)(x:ES)(m:Sc)(b S:List Int)(hv:Value):Prop where
 CT:w.heap[s]?=some (.cells (rA x m hv) 81)
 tx:E4 w x.tg x.g m.most x.t
 tok:x.t.Ok
 tb:x.t.bs=b
 runs:Mc w x.v1 (BM S)
 ends:RT .i64 3 w x.v2 (Cu (BM S))
theorem XK.later{x:ES}{m:Sc}(h:XK w s x m b S hv)(a:AA w w'):XK w' s x m b S hv:=⟨AB a h.CT,h.tx.later a,h.tok,h.tb,h.runs.later a,h.ends.later a⟩
theorem Dr.sb{x:ES}{m:Sc}(h:Dr B w s x m b S L H):XK w s x m b S (.pointer (some ⟨x.hg,0,none⟩)):=⟨h.CT,h.tx,h.tok,h.tb,h.runs,h.ends⟩
theorem Dr.store{x x':ES}{m m':Sc}{S':List Int}(h:Dr B w s x m b S L H){i:Nat}{v:Value}(hc:(KF x m).setIfInBounds i v=KF x' m')(e:x'.tg=x.tg/\x'.g=x.g/\x'.hg=x.hg/\x'.t=x.t/\x'.K=x.K/\m'.most=m.most)(hr:Mc w x'.v1 (BM S'))(he:RT .i64 3 w x'.v2 (Cu (BM S')))(hf:QT w x'.v3 m'.F):Dr B (w.setCell ⟨s,i,none⟩ v) s x' m' b S' L H:=by
 obtain ⟨e1,e2,e3,e4,e5,e6⟩:=e;have st:AZ (fun k=>k=s) w (w.setCell ⟨s,i,none⟩ v):=(AZ.refl (fun k=>k=s) w).setCell (b:=s) rfl v;have c:Ch B w (w.setCell ⟨s,i,none⟩ v):=AZ.wide st (fun k _ hk=>by
  obtain rfl:k=s:=hk
  exact h.self)
 have hg:x.g≠s:=fun q=>by
  obtain ⟨_,rv,h2,_⟩:=h.tx;rw[q,h.CT]at h2;cases h2
 refine ⟨BI h.CT hc,?_,by rw[e4];exact h.tok,by rw[e4];exact h.tb,hr.ch c,he.ch c Js,hf.ch c,?_,h.bs,by rw[e2];exact h.bg⟩
 ·rw[e1,e2,e4,e6];exact h.tx.zB c (Bh hg rfl)
 ·rw[e3,e5];exact h.RF.off st (fun k hk=>by
   obtain rfl:k=s:=hk
   exact ⟨_,_,_,h.CT,.inl rfl⟩)
open Classical in
noncomputable def XE(l:List Int):Nat:=if h:∃c,Vr l c then h.choose else 0
theorem LA(hb:BX l):Vr l (XE l):=by
 obtain ⟨c,h,_⟩:=iW hb;have hx:∃c,Vr l c:=⟨c,h⟩;unfold XE;rw[dif_pos hx];exact hx.choose_spec
noncomputable def C6(wd:Int)(l st:List Int):List Ld:=FV (Et l (fun p=>st.getD p 0) (XE l)) wd
noncomputable def Bu(wd:Int)(l st:List Int):Int × Int:=(((C6 wd l st).length:Int),GT (C6 wd l st))
structure Sw(b S:List Int):Prop where
 O6:BX b
 sl:S.length=b.length
 sg:∀s∈S,BL s=true
 len:b.length<=900
theorem Sc.Ok.t{m:Sc}(h:m.Ok):Sw m.b m.S:=⟨h.O6,h.sl,h.sg,h.len⟩
theorem FN(h:BX X)(k:Nat):BX (A_ b X k):=fun c hc=>h c (List.mem_of_mem_take (List.mem_of_mem_drop hc))
theorem Y9(h:∀s∈X,BL s=true)(k:Nat):∀s∈A_ b X k,BL s=true:=fun c hc=>h c (List.mem_of_mem_take (List.mem_of_mem_drop hc))
theorem Sw.T_(h:Sw b S):AM (BM S)=S:=G0 h.sg (by have:=h.sl;have:=h.len;omega)
theorem Sw.W9(h:Sw b S):KT (BM S):=Mx h.sg (by have:=h.sl;have:=h.len;omega)
theorem Sw.runs(h:Sw b S):(BM S).length<=900:=by have:=C5 S;have:=h.sl;have:=h.len;omega
theorem Sw.line(h:Sw b S){k:Nat}(hk:k<=(Ap 0 b).length):∃s n:Nat,Jw (Ap 0 b) k=s/\Nw (Ap 0 b) b.length k=((s+n:Nat):Int)/\s+n<=b.length/\(A_ b b k).length=n/\(A_ b S k).length=n:=by
 have hF:=GJ b;have h0:=hF.s0 hk;have h1:=hF.se hk;have h2:=hF.en hk;obtain ⟨s,hs⟩:=Int.eq_ofNat_of_zero_le h0;obtain ⟨e,he⟩:=Int.eq_ofNat_of_zero_le (show 0<=Nw (Ap 0 b) b.length k by omega);have hl:=h.sl;refine ⟨s,e-s,hs,AD,AD,?_,?_⟩
 ·unfold A_;rw[hs,he,N3 AD]
 ·unfold A_;rw[hs,he,N3 AD]
theorem dY{Q:Aa}(hb:BX l)(hl:st.length=l.length)(hq:AM Q=st)(h9:l.length<=900):FV (Et l (fun p=>(Gt Q 0 l.length).getD p 0) (XE l)) wd=C6 wd l st:=by
 unfold C6;rw[Uh (LA hb) (sty2:=fun p=>st.getD p 0) (fun p hp=>?_)];rw[iT (by rw[hq];omega) 0 hp,hq];unfold zy;rw[if_pos AD];simp
theorem LV(hb:BX l):(C6 wd l st).length<=l.length+1:=by
 have h1:=(Pi (Et l (fun p=>st.getD p 0) (XE l)) wd).1;rw[EX]at h1;have:=(LA hb).le hb
 unfold C6;omega
def Jk(st:List Int)(u:Value)(w:World):Prop:=∃Q:Aa,FH w u Q/\AM Q=st/\CV Q/\Q.length<=60000
theorem Jk.later(a:AA w w')(h:Jk st u w):Jk st u w':=by
 obtain ⟨Q,h1,h2⟩:=h;exact ⟨Q,h1.later a,h2⟩
theorem RP.mono{L:List Ld}(h:RP w B v L)(hC:C<=B):RP w C v L:=by
 obtain ⟨lv,h1,h2,h3⟩:=h;exact ⟨lv,owns_base' h1 hC,h2,fun j k k'=>⟨⟨owns_base' (h3 j k k').1.1 hC,owns_base' (h3 j k k').1.2 hC⟩,(h3 j k k').2⟩⟩
theorem PM{x:ES}{m:Sc}(k:Nat)(w:World)(h:XK w s x m b S hv)(ok:Sw b S)(hg:Dh w)(Pu:BO m.wd)(hk:k<=(Ap 0 b).length):
 Calls prog 75 #[.pointer (some ⟨s,0,none⟩),.int .i64 (k:Int)] w fun e w'=>∃u,e=.returned u/\AA w w'/\RP w' w.heap.size u (C6 m.wd (A_ b b k) (A_ b S k)):=by
 obtain ⟨s0,n,e1,e2,e3,e4,e5⟩:=ok.line hk;have uU:k<=x.t.nf:=by rw[<-EZ];unfold J_;rw[h.tb];exact hk
 have ah:=AC (fun (w':World) (a:AA w w')=>cJ x.tg x.g m.most x.t k (A_ b b k) w' (h.tx.later a) h.tok uU (by unfold J_ A_;rw[<-Tr.Bv,h.tb]));have RA:=AC (fun (w':World) (a:AA w w')=>MH x.tg x.g m.most x.t k (s0:Int) w' (h.tx.later a) h.tok uU (by unfold J_;rw[h.tb,e1]));have mZ:AM (BM S)=S:=ok.T_;have tC:=ok.runs;have HP:=AC (fun (w':World) (a:AA w w')=>bJ x.v1 x.v2 (BM S) s0 (s0+n) w' (h.runs.1.later a) (h.ends.rn.later a) ok.W9 AD (by rw[mZ,ok.sl];exact e3) AD (by rw[mZ,ok.sl];have:=ok.len;omega));rw[mZ]at HP;have fd:=FN ok.O6 k (b:=b);have hcS:Bt S (s0:Int) ((s0+n:Nat):Int)=A_ b S k:=by unfold A_;rw[e1,e2]
 rw[hcS]at HP;have hn9:n<=900:=by have:=ok.len;omega
 have tZ:=AC (fun (w':World) (v vr:Value) (Q:Aa) (a:AA w w') (hv:RN .u8 w' v (A_ b b k)) (hr:FH w' vr Q) (hq:AM Q=A_ b S k) (hN:CV Q) (hl:Q.length<=60000)=>(by
  have:=cx v vr (A_ b b k) Q 0 m.wd (XE (A_ b b k)) w' hv fd AD (hg.later a) (LA fd) hr hN AD (by constructor <;> omega) Pu
  rwa [dY fd (by rw[e4,e5]) hq AD]at this:Calls prog 116 #[v,vr,.int .i64 0,.int .i64 m.wd] w' fun e Bg=>∃u,e=.returned u/\AA w' Bg/\RP Bg w'.heap.size u (C6 m.wd (A_ b b k) (A_ b S k))))
 have pS:=AC h.CT;have HGL:=AC e4;have cp:s0+n<=900:=by have:=ok.len;omega
 clear e1 e2 e3 e5 uU mZ tC fd hcS ok hk hg;obtain ⟨tg,g,y_,t,K,v1,v2,v3⟩:=x;obtain ⟨mb,mS,mF,most,wd,ld⟩:=m;simp only[rA]at pS;simp only at ah RA HP tZ Pu ⊢
 generalize A_ b b k=l at *;generalize A_ b S k=st at *;generalize C6 wd l st=R at *;have Ag:=pS.out;have ly:=AA.refl w;have Bx:=AE Ag;clear h;go_enter func75,ntmps75;go_wp2_with fail;refine (ah _ ly).mono ?_;rintro e w1 ⟨u1,rfl,AJ,q1⟩;obtain ⟨A1,Cg,rfl,-⟩:=PT.form q1;rw[HGL.out]at q1 ⊢;have H1:=AC q1;clear q1;have AG:=AJ;have AH:=AB AJ Ag;have B7:=AE AH;(try clear Bx);go_wp2_with fail;refine (RA _ AG).mono ?_;rintro e w2 ⟨rfl,AL⟩;have AR:=AG.trans AL;have AU:=AB AL AH;(try clear B7);have Mf:=AC AR;have H2:=AC (SU AL H1.out);have Ox:Hid (∀x,AA w2 x->Calls prog 117 #[.agg #[v1,v2],.int .i64 (s0:Int),.int .i64 ((s0:Int)+(n:Int))] x fun e w'=>∃u,e=.returned u/\AA x w'/\Jk st u w'):=AC (fun x a=>by
  rw[show (s0:Int)+(n:Int)=((s0+n:Nat):Int) by omega];refine (HP x (Mf.out.trans a)).mono ?_;rintro e w' ⟨u,Q,rfl,b,q1,q2⟩;exact ⟨u,rfl,b,Q,q1.reads,q2⟩)
 have o_:Hid (∀x vr,AA w2 x->Jk st vr x->Calls prog 116 #[.slice A1 n Cg,vr,.int .i64 0,.int .i64 wd] x fun e w'=>∃u,e=.returned u/\AA x w'/\RP w' w.heap.size u R):=AC (fun x vr a hv=>by
  obtain ⟨Q,q1,q2,q3,q4⟩:=hv;have q5:RN .u8 x (.slice A1 n Cg) l:=(SU a H2.out).rn;refine (tZ x _ vr Q (Mf.out.trans a) q5 q1 q2 q3 q4).mono ?_;rintro e w' ⟨u,rfl,b,q⟩;exact ⟨u,rfl,b,q.mono (Mf.out.trans a).below.size⟩)
 clear AJ AL;go_wp2_with fail;apply Wild.AP (17) [⟨10,33,undef,true,Jk st⟩,⟨15,38,undef,true,fun u w'=>RP w' w.heap.size u R⟩,⟨16,4,undef,true,fun u w'=>RP w' w.heap.size u R⟩] [⟨10,33,Jk st⟩,⟨15,38,fun u w'=>RP w' w.heap.size u R⟩,⟨16,4,fun u w'=>RP w' w.heap.size u R⟩] rfl AY AY AY Ar AY
 case hstab=>
  intro c hc;rcases Cv hc with rfl|rfl|rfl
  ·intro v x y BE hv;exact (fun h k=>Jk.later h k) BE hv
  ·intro v x y BE hv;exact (fun h k=>RP.later k h) BE hv
  ·intro v x y BE hv;exact (fun h k=>RP.later k h) BE hv
 case hfix=>
  intro c hc;rcases Cv hc with rfl|rfl|rfl
  ·exact .inl rfl
  ·exact .inl rfl
  ·exact .inl rfl
 case hlex=>
  intro U hU;have q0:=AE (AB hU AU);refine Hj ?_
  repeat (go_big_quiet_step (fail))
  exact wpQuiet_nil rfl
 case hstep=>
  intro j hj o ho;have CQ:j=0\/j=1\/j=2:=by simp at hj;omega
  rcases CQ with rfl|rfl|rfl
  ·cases ho;refine ⟨rfl,fun g x hx hp=>?_⟩;clear hp;refine Bp ?_;refine AO ?_ (Wild.Ai (Ox x hx));simp[go_sem,execOp]
  ·cases ho;refine ⟨rfl,fun g x hx hp=>?_⟩;have p33:(Jk st) (g 10) x:=hp _ (mem_of_getElem? (i:=0) rfl) (List.contains_iff_mem.1 AY);clear hp;refine Bp ?_;refine AO ?_ (Wild.Ai (o_ x _ hx p33));simp[go_sem,execOp]
  ·cases ho;refine ⟨rfl,fun g x hx hp=>?_⟩;have p38:(fun u w'=>RP w' w.heap.size u R) (g 15) x:=hp _ (mem_of_getElem? (i:=1) rfl) (List.contains_iff_mem.1 AY);clear hp;refine Bp ?_;refine Wild.Dv (v:=g 15) ?_ p38;simp[go_sem,execOp]
 case htail=>
  intro g u Aw Az;have AX:AA w2 (later u):=⟨u,rfl⟩;generalize later u=w3 at *;clear u Az;obtain ⟨sm,-⟩:=Aw _ (mem_of_getElem? (i:=0) rfl);(try dsimp only at sm)
  obtain ⟨tT,-⟩:=Aw _ (mem_of_getElem? (i:=1) rfl);(try dsimp only at tT)
  obtain ⟨KY,-⟩:=Aw _ (mem_of_getElem? (i:=2) rfl);(try dsimp only at KY)
  clear Aw;refine DH ?_;generalize g 10=v33 at *;generalize g 15=v38 at *;generalize g 16=v4 at *;have An:=AR.trans AX;go_wp2_with fail;go_ret;exact ⟨_,rfl,An,KY⟩
theorem cD{x:ES}{m:Sc}(k:Nat)(w:World)(h:Dr B w s x m b S L H)(ok:Sw b S)(hg:Dh w)(Pu:BO m.wd)(hk:k<=(Ap 0 b).length):
 Calls prog 75 #[.pointer (some ⟨s,0,none⟩),.int .i64 (k:Int)] w fun e w'=>∃u,e=.returned u/\AA w w'/\RP w' w.heap.size u (C6 m.wd (A_ b b k) (A_ b S k)):=PM k w h.sb ok hg Pu hk
theorem GC{x:ES}{m:Sc}(p:Nat)(k:Nat)(w:World)(h:Dr B w s x m b S L H)(hp:p<=b.length)(hk:below (p:Int) (Ap 0 b)=k):
 Calls prog 70 #[.pointer (some ⟨s,0,none⟩),.int .i64 (p:Int)] w fun e w'=>e=.returned (.int .i64 (k:Int))/\AA w w':=by
 have hb:=Iq (F:=Ap 0 b) (n:=b.length) (x:=p) AD AD;rw[hk]at hb;have uU:k<=x.t.nf:=by rw[<-EZ];unfold J_;rw[h.tb];exact hb.1
 obtain ⟨s0,vR⟩:=BZ (Jw (Ap 0 b) k);have h0:=(GJ b).s0 hb.1;have HTP:=AC (fun (w':World) (a:AA w w')=>Qx x.tg x.g m.most x.t p k s0 w' (h.tx.later a) h.tok (by rw[<-Tr.Bv,h.tb];exact hp) (by unfold J_;rw[h.tb,hk]) (by unfold J_;rw[h.tb,vR]) (by rw[<-vR];exact ⟨h0,hb.2.1⟩) uU);have Ag:=h.CT;obtain ⟨tg,g,y_,t,K,v1,v2,v3⟩:=x;obtain ⟨mb,mS,mF,most,wd,ld⟩:=m;simp only[KF]at Ag;simp only at HTP
 have ly:=AA.refl w;have Bx:=AE Ag;clear h hb hk uU vR h0 hp;go_enter func70,ntmps70;go_wp2_with fail;refine (HTP _ ly).mono ?_;rintro e w1 ⟨rfl,AJ⟩;have AG:=AJ;(try clear Bx);go_wp2_with fail;go_ret;exact ⟨rfl,AG⟩
theorem kO(hb:BX l)(hl:l.length<=900)(hs:∀s∈st,BL s=true):j0 (C6 wd l st):=by
 have hc:=(LA hb).le hb;refine dh (WN hb (fun p=>?_) AD _) (N6 hb AD _) (by rw[EX];omega);rcases Nat.lt_or_ge p st.length with q|q
 ·have:=Hn (hs _ (getElem_mem q))
  rw[List.getD_eq_getElem?_getD,List.getElem?_eq_getElem q];show BO st[p]
  constructor <;> omega
 ·rw[List.getD_eq_getElem?_getD,List.getElem?_eq_none q];show BO 0
  constructor <;> omega
theorem SF:0<=GT (C6 wd l st)/\GT (C6 wd l st)<=17*(C6 wd l st).length:=Xh _ _
theorem IQ{α:Type}(T:List Int->List Int->α)(b S:List Int)(lf m:Nat):(Fq T b S lf m).length=m:=by simp[Fq]
theorem fL{α:Type}(T:List Int->List Int->α)(b S:List Int)(lf m:Nat):Fq T b S lf (m+1)=Fq T b S lf m++[T (A_ b b (lf+m)) (A_ b S (lf+m))]:=by
 unfold Fq;rw[List.range_succ,List.map_append];rfl
theorem ui(n:Nat)(hn:n<=90000)(w:World):(Instr.makeSlice 84 (.int .i64 0) (.int .i64 (n:Int))).run prog w=.ok (.slice (some ⟨w.heap.size,0,none⟩) 0 n) (w.alloc (.cells (madeCells #[.int .i64 0,.int .i64 0] (n*2)) 61))/\OQ 61 (w.alloc (.cells (madeCells #[.int .i64 0,.int .i64 0] (n*2)) 61)) w.heap.size (.slice (some ⟨w.heap.size,0,none⟩) 0 n) []:=by
 obtain ⟨i0,Gv,JM,Ie,JN⟩:=info_parts S7;have h:=run_make (P:=prog) w 84 61 i0 (.agg #[.int .i64 0,.int .i64 0]) underlying84 Gv JM .i64 .i64 0 (n:Int) AD AD (by rw[JN];omega) AD;rw[Ie]at h;simp only[Int.toNat_natCast,Int.toNat_zero]at h;exact ⟨h,rfl,.inr ⟨_,n,_,rfl,Nat.le_refl _,Ae rfl,Nat.zero_le _,by unfold maxLen;omega,by rw[size_madeCells],rfl⟩⟩
theorem Pm{x:ES}{m:Sc}(f n:Nat)(w:World)(h:XK w s x m b S hv)(ok:Sw b S)(hg:Dh w)(Pu:BO m.wd)(S6:0<=m.ld/\m.ld<=2000000000)(hn:f+n<=(Ap 0 b).length+1):
 Calls prog 39 #[.pointer (some ⟨s,0,none⟩),.int .i64 (f:Int),.int .i64 ((f:Int)+n-1)] w fun e w'=>∃u w1,e=.returned u/\AA w w1/\w'=w1.setCell ⟨s,7,none⟩ (.int .i64 (m.ld+n))/\OQ 61 w' w.heap.size u (Fq (Bu m.wd) b S f n):=by
 have HR:=AC (fun (k:Nat) (w':World) (a:AA w w') (hk:k<=(Ap 0 b).length)=>PM k w' (h.later a) ok (hg.later a) Pu hk);have sr:(Ap 0 b).length<=900:=Nat.le_trans (Dg b 0) ok.len;have sY:=AC (fun (k:Nat) (w':World) (v:Value) (hv:LR w' v (C6 m.wd (A_ b b k) (A_ b S k))) (hk:k<=(Ap 0 b).length)=>(by
  have fd:=FN ok.O6 k (b:=b);obtain ⟨s0,n0,e1,e2,e3,e4,e5⟩:=ok.line hk;have h9:=ok.len;exact lD v (C6 m.wd (A_ b b k) (A_ b S k)) w' _ rfl hv (kO fd AD (Y9 ok.sg k)) (by have:=LV (wd:=m.wd) (st:=A_ b S k) fd;omega):Calls prog 91 #[v] w' fun e Bg=>e=.returned (.int .i64 (GT (C6 m.wd (A_ b b k) (A_ b S k))))/\AA w' Bg))
 have rG:=AC (fun (k:Nat) (hk:k<=(Ap 0 b).length)=>(by
  have fd:=FN ok.O6 k (b:=b);obtain ⟨s0,n0,e1,e2,e3,e4,e5⟩:=ok.line hk;have h9:=ok.len;have h1:=LV (wd:=m.wd) (st:=A_ b S k) fd;have h2:=SF (wd:=m.wd) (l:=A_ b b k) (st:=A_ b S k);exact ⟨AD,h2.1,AD⟩:(C6 m.wd (A_ b b k) (A_ b S k)).length<=901/\0<=GT (C6 m.wd (A_ b b k) (A_ b S k))/\GT (C6 m.wd (A_ b b k) (A_ b S k))<=16777216))
 have pS:=AC h.CT;have HLP:=AC (fun j=>fL (Bu m.wd) b S f j);have Ag:=h.CT;obtain ⟨tg,g,y_,t,K,v1,v2,v3⟩:=x;obtain ⟨mb,mS,mF,most,wd,ld⟩:=m;simp only[rA]at Ag pS;simp only at HR sY rG HLP S6 ⊢
 obtain ⟨N,hN⟩:=BZ ((Ap 0 b).length);rw[hN]at HR sY rG hn sr;have xw:Hid (Fq (Bu wd) b S f 0=[]):=AC rfl;have HPL:=AC (fun j=>IQ (Bu wd) b S f j);obtain ⟨Bx,Wj,Wk⟩:=GH Ag;have HM:=ui n AD w;obtain ⟨ze,VR⟩:=HM;have HM:=AC VR;clear h ok hg VR hN Pu;have i0:(f:Int)+n-1-f+1=n:=AD;go_enter func39,ntmps39;go_wp2_with fail;have a0:AA w (w.alloc (.cells (madeCells #[.int .i64 0,.int .i64 0] (n*2)) 61)):=(AA.refl w).alloc _;go_loopg [7,8] n (fun kk lv iv wr=>∃j:Nat,kk=n-j/\j<=n/\iv=.int .i64 ((f:Int)+j)/\AA w wr/\OQ 61 wr w.heap.size lv (Fq (Bu wd) b S f j))
 case atStart=>exact ⟨0,AD,AD,by rw[Int.natCast_zero,Int.add_zero],a0,by rw[xw.out];exact HM.out⟩
 case round=>
  obtain ⟨j,hk,hj,rfl,AW,ho⟩:=hrel;have HO:=AC ho;have HL:=AC (HPL j);obtain ⟨A9,c9,rfl,-⟩:=(OQ.rq ho).form;rw[HPL j];have CR:=AB AW pS.out;obtain ⟨Dy,pz⟩:=DX CR;have HA:=AC AW;clear ho Bx Wj;by_cases BN:j<n
  ·have d0:decide ((f:Int)+j<=f+n-1)=true:=decide_eq_true AD;have uD:f+j<=N:=AD;obtain ⟨R,hR⟩:=BZ (C6 wd (A_ b b (f+j)) (A_ b S (f+j)));have l_:=HR (f+j) wr AW uD;have TO:=AC (fun w' v hv=>sY (f+j) w' v hv uD);have uq:=rG (f+j) uD;have dy:Hid (Fq (Bu wd) b S f (j+1)=Fq (Bu wd) b S f j++[((R.length:Int),GT R)]):=AC (by rw[HLP j];unfold Bu;rw[hR]);rw[hR]at l_ TO uq;have l_:=AC l_;obtain ⟨y,hy⟩:=BZ (GT R);rw[hy]at TO uq dy;obtain ⟨F1,F2,F3⟩:=uq;clear hR hy;have i1:((f+j:Nat):Int)=(f:Int)+j:=AD;rw[i1]at l_;go_wp2_with fail;refine l_.out.mono ?_;rintro e w1 ⟨u1,rfl,AJ,q1⟩;have q1:=q1.lr;have H1:=AC q1;obtain ⟨A1,Cg,rfl,-⟩:=q1.form;obtain ⟨z,hz⟩:=BZ (R.length);rw[hz]at F1 dy ⊢;have H1:Hid (LR w1 (.slice A1 z Cg) R):=AC (by rw[<-hz];exact H1.out);clear q1 hz;go_wp2_with fail;refine (TO w1 _ H1.out).mono ?_;rintro e w2 ⟨rfl,AL⟩;have vp:min y 16777216=y:=AD;have uC:=AJ.trans AL;have N9:OQ 61 w2 w.heap.size (.slice A9 j c9) (Fq (Bu wd) b S f j):=by
    have:=HO.out
    rw[HL.out]at this;exact OQ.later uC this
   obtain ⟨u2,w3,q1,q2,q3⟩:=OR B8 ((z:Int),y) N9 (AW.trans uC).below.size (by rw[HL.out];omega);have K1:=AC q1;have K2:=AC (And.intro q2 (q3 w (Nat.le_refl _) (AW.trans uC)));obtain ⟨A4,c4,rfl,-⟩:=(OQ.rq q2).form;rw[length_append,List.length_singleton,HL.out]at K1 K2;clear q1 q2 q3 N9;go_wp2_with (at_builtin;refine Lib.wpList_append_run _ rfl _ _ _ _ rfl _ _ rfl rfl _ _ K1.out ?_)
   go_roundg (n-(j+1))
   case measure=>omega
   case rel=>
    refine ⟨j+1,rfl,AD,by congr 1,K2.out.2,?_⟩;rw[dy.out];exact K2.out.1
  ·obtain rfl:j=n:=AD
   have d0:decide ((f:Int)+j<=f+j-1)=false:=decide_eq_false AD;clear BN;go_wp2_with fail;go_ret;refine ⟨_,wr,rfl,HA.out,rfl,?_⟩;have q:=HO.out;rw[HL.out]at q;exact Ct q ((AZ.refl (fun b=>b=s) wr).setCell (b:=s) rfl _) (fun k hk he=>by
    have h1:w.heap.size<=k:=DI q k hk;have h2:=As pS.out;omega)
theorem Rv{x:ES}{m:Sc}(f n:Nat)(w:World)(h:Dr B w s x m b S L H)(ok:Sw b S)(hg:Dh w)(_:B<=w.heap.size)(Pu:BO m.wd)(S6:0<=m.ld/\m.ld<=2000000000)(hn:f+n<=(Ap 0 b).length+1):
 Calls prog 39 #[.pointer (some ⟨s,0,none⟩),.int .i64 (f:Int),.int .i64 ((f:Int)+n-1)] w fun e w'=>∃u w1,e=.returned u/\AA w w1/\w'=w1.setCell ⟨s,7,none⟩ (.int .i64 (m.ld+n))/\OQ 61 w' w.heap.size u (Fq (Bu m.wd) b S f n):=Pm f n w h.sb ok hg Pu S6 hn
theorem Ow:¬Oi 170:=by unfold Oi;decide
theorem l6.ch{l:Au}(h:l6 w v l)(c:Ch B w w'):l6 w' v l:=by
 obtain ⟨⟨A,cap,rfl,h2,h3⟩,h4⟩:=h;refine ⟨⟨A,cap,rfl,h2,fun h0=>?_⟩,fun b hb=>?_⟩
 ·obtain ⟨b,off,rfl,hb,hc⟩:=h3 h0;obtain ⟨cs,FS⟩:=h4 b rfl;exact ⟨b,off,rfl,Nat.lt_of_lt_of_le hb c.size,fun j hj=>⟨c.cell FS Ow (hc j hj).1,c.cell FS Ow (hc j hj).2⟩⟩
 ·obtain ⟨cs,FS⟩:=h4 b hb;exact ⟨cs,c.own FS Ow⟩
theorem HC.types(h:Gb B w hg K L H){b:Nat}(hb:HC B w hg K b){cs:Array Value}{t:TypeId}{m:Nat × Nat}(e:w.heap[b]?=some (.cells cs t m)):t=116\/t=249\/t=166\/t=211\/(t=61/\b∈K):=by
 obtain ⟨La,t',e',q⟩:=HC.kind h hb;rw[e]at e';cases e'
 rcases q with q|q|⟨hk,q|q|q⟩
 ·exact .inl q
 ·exact .inr (.inl q)
 ·exact .inr (.inr (.inl q))
 ·exact .inr (.inr (.inr (.inl q)))
 ·exact .inr (.inr (.inr (.inr ⟨q,hk⟩)))
theorem Dr.KQ{x:ES}{m:Sc}{L':Qs}{H':List Bool}(h:Dr B w s x m b S L H)(d:IR B w x.hg x.K L' H' w'):∃K',Dr B w' s {x with K:=K'} m b S L' H'/\(∀q∈K',q∈x.K\/w.heap.size<=q)/\Ch B w w'/\AZ (HC B w x.hg x.K) w w':=by
 obtain ⟨K',hA,hK,st⟩:=d;have c:Ch B w w':=AZ.wide st (fun k _ hk=>HC.mv h.RF hk);refine ⟨K',⟨?_,h.tx.zB c ?_,h.tok,h.tb,h.runs.ch c,h.ends.ch c Js,h.Hl.ch c,hA,h.bs,h.bg⟩,hK,c,st⟩
 ·exact st.own h.CT (fun hc=>by rcases HC.types h.RF hc h.CT with q|q|q|q|⟨q,_⟩ <;> exact absurd q (by decide))
 ·obtain ⟨_,rv,h2,_⟩:=h.tx;exact st.block _ (As h2) (fun hc=>by rcases HC.types h.RF hc h2 with q|q|q|q|⟨q,_⟩ <;> exact absurd q (by decide))
theorem dO(h:Gb B w hg K L H)(st:AZ (HC B w hg K) w w')(o:OQ 61 w C u M)(hu:∀k,u.ownBlock=some k->k∉K):OQ 61 w' C u M:=
 Ct o st (fun k hk hc=>by
  rcases o.2 with ⟨rfl,_⟩|⟨g,cap,cur,rfl,h1,h2,_⟩
  ·cases hk
  ·cases hk;rcases HC.types h hc h2 with q|q|q|q|⟨_,q⟩
   ·exact absurd q (by decide)
   ·exact absurd q (by decide)
   ·exact absurd q (by decide)
   ·exact absurd q (by decide)
   ·exact hu _ rfl q)
theorem di(p:Int):Gr (A++[(p,p)]) on H=Gr A on H:=by
 unfold Gr;apply List.map_congr_left
 intro k _;have:C9 (A++[(p,p)]) (k:Int)=C9 A (k:Int):=by
  unfold C9;rw[any_append,any_cons,any_nil,decide_eq_false (by simp only;omega),Bool.or_false,Bool.or_false]
 rw[this]
theorem kJ{p:Int}{q:Nat}(hp:p<=q)(hq:q<H.length)(hl:H.length<=45000):(Gr (A++[(p,(q:Int))]) on H).set q on=Gr (A++[(p,(q:Int)+1)]) on H:=by
 refine KI (by rw[List.length_set,CI,CI]) (fun k hk=>?_);rw[List.length_set,CI]at hk;rw[I9 hk,List.getD_eq_getElem?_getD,List.getElem?_set];unfold C9;rw[any_append,any_cons,any_nil,Bool.or_false];by_cases e:q=k
 ·subst e;rw[if_pos rfl,if_pos (by rw[CI];exact hq),decide_eq_true (by simp only;omega),Bool.or_true];rfl
 ·rw[if_neg e,<-List.getD_eq_getElem?_getD,I9 hk];unfold C9;rw[any_append,any_cons,any_nil,Bool.or_false];have:decide (p<=(k:Int)/\(k:Int)<(q:Int)/\ -1073741824<=(k:Int)/\(k:Int)<1073741824)=decide (p<=(k:Int)/\(k:Int)<(q:Int)+1/\ -1073741824<=(k:Int)/\(k:Int)<1073741824):=by
   rw[decide_eq_decide];omega
  rw[this]
theorem j4(on:Bool)(H:List Bool):Gr [] on H=H:=KI (by rw[CI]) (fun k hk=>by
 rw[CI]at hk;rw[I9 hk];rfl)
def MY(B:Nat)(w0:World)(s:Nat)(x:ES)(m:Sc)(b S:List Int)(L:Qs)(H:List Bool)(w':World):Prop:=∃K',Dr B w' s {x with K:=K'} m b S L H/\Ch B w0 w'
theorem MY.later{w0:World}{x:ES}{m:Sc}(h:MY B w0 s x m b S L H w)(a:AA w w'):MY B w0 s x m b S L H w':=by
 obtain ⟨K',h1,h2⟩:=h;exact ⟨K',h1.later a,h2.trans (.of a)⟩
theorem cW{x:ES}{m:Sc}(v:Value)(T:Qs)(on:Bool)(w:World)(h:Dr B w s x m b S L H)(hv:l6 w v T)(hT:∀r∈T,0<=r.1/\r.1<r.2/\r.2<=H.length)(hl:T.length<=60000):
 Calls prog 111 #[.pointer (some ⟨s,0,none⟩),v,.bool on] w fun e w'=>e=.returned (.tuple #[])/\MY B w s x m b S L (Gr T on H) w':=by
 have hLH:H.length=L.length/\L.length<=45000:=⟨h.RF.len,h.RF.mA.2⟩;have HHD:=AC (fun (i:Nat) (w':World) (K:List Nat) (H':List Bool) (h':Dr B w' s {x with K:=K} m b S L H')=>(Xe x.hg K L H' (i:Int) on w' h'.RF));have HV:=AC hv;obtain ⟨⟨A,cap,rfl,JY,-⟩,-⟩:=hv;have HT:=AC hT;obtain ⟨nT,Lf⟩:=BZ (T.length);have HN:=AC Lf;rw[Lf]at JY hl ⊢;have vJ:=AC (⟨x.K,h,Ch.refl B w⟩:MY B w s x m b S L H w);rw[Lf]at HV;clear hT Lf h;go_enter func111,ntmps111;go_wp2_with fail;go_loopg [11] nT (fun kk iv wr=>∃j:Nat,kk=nT-j/\j<=nT/\iv=.int .i64 (j:Int)/\MY B w s x m b S L (Gr (T.take j) on H) wr)
 case atStart=>exact ⟨0,AD,AD,rfl,by rw[List.take_zero,j4];exact vJ.out⟩
 case round=>
  obtain ⟨j,hk,hj,rfl,K1,hs,hc⟩:=hrel;have HS:=AC hs;have Z0:=AC hc;by_cases BN:j<nT
  ·have lj:j<T.length:=by rw[HN.out];exact BN
   have i0:(j:Int)<(nT:Int):=AD;have yK:=HV.out.ch hc;obtain ⟨⟨A',DZ,e1,-,Eu⟩,hty⟩:=yK;cases e1;obtain ⟨b1,off,rfl,hb,Qv⟩:=Eu (by rw[HN.out];omega);obtain ⟨c0,c1⟩:=Qv j lj;have hr:=HT T[j] (getElem_mem lj);have HTJ:Hid (T.take (j+1)=T.take j++[T[j]]):=AC (List.take_succ_eq_append_getElem lj);generalize T[j]=r at *;obtain ⟨r1,r2⟩:=r;simp only at c0 c1 hr
   obtain ⟨p,rfl⟩:=Int.eq_ofNat_of_zero_le hr.1;obtain ⟨d,hd⟩:∃d:Nat,r2=(p:Int)+d:=⟨(r2-p).toNat,AD⟩;subst hd;have hpd:p+d<=H.length/\0<d:=AD;clear hs hc Eu Qv hty;have Dy:=AE HS.out.CT;have El:Hid ((wr.alloc (.cells #[.int .i64 (p:Int),.int .i64 ((p:Int)+d)] 170)).heap[wr.heap.size]?=some (.cells #[.int .i64 (p:Int),.int .i64 ((p:Int)+d)] 170)):=AC (Ae rfl);have TO:Hid (MY B w s x m b S L (Gr (T.take j++[((p:Int),(p:Int)+(0:Nat))]) on H) (wr.alloc (.cells #[.int .i64 (p:Int),.int .i64 ((p:Int)+d)] 170))):=AC (by
    rw[show (p:Int)+(0:Nat)=p by omega,di];exact MY.later ⟨K1,HS.out,Z0.out⟩ ((AA.refl wr).alloc _))
   clear Dy;go_wp2_with fail;generalize wr.alloc (.cells #[.int .i64 (p:Int),.int .i64 ((p:Int)+d)] 170)=w1 at *;generalize wr.heap.size=G at *;clear c0 c1 hb;go_loopg [8] d (fun kk lv wr=>∃i:Nat,kk=d-i/\i<=d/\lv=.int .i64 ((p:Int)+i)/\MY B w s x m b S L (Gr (T.take j++[((p:Int),(p:Int)+i)]) on H) wr/\wr.heap[G]?=some (.cells #[.int .i64 (p:Int),.int .i64 ((p:Int)+d)] 170))
   case atStart=>exact ⟨0,AD,AD,by rw[Int.natCast_zero,Int.add_zero],TO.out,El.out⟩
   case round=>
    obtain ⟨i,Gh,hi,rfl,⟨K2,MI,D4⟩,fe⟩:=hrel;have d8:=AC MI;have Hw:=AC D4;have py:=AC fe;have r0:=AE MI.CT;have r1:=AE fe;simp only[KF]at r0;obtain ⟨tg,g,y_,t,K,v1,v2,v3⟩:=x;obtain ⟨mb,mS,mF,most,wd,ld⟩:=m;simp only at r0
    by_cases JQ:i<d
    ·have i1:decide ((p:Int)+i<(p:Int)+d)=true:=decide_eq_true AD;have HH:=AC (HHD (p+i) wr K2 _ d8.out);have e1:((p+i:Nat):Int)=(p:Int)+i:=AD;rw[e1]at HH;clear MI D4 fe;go_wp2_with fail;refine HH.out.mono ?_;rintro e w2 ⟨rfl,hd⟩;obtain ⟨K3,q1,q2,q3,q4⟩:=d8.out.KQ hd;have HQ:=AC (And.intro q1 (Hw.out.trans q3));have zl:=AC (q3.own py Ow);clear hd q1 q2 q3 q4;go_wp2_with fail;go_roundg (d-(i+1))
     case measure=>omega
     case rel=>
      refine ⟨i+1,rfl,AD,by go_num,⟨K3,?_,HQ.out.2⟩,zl.out⟩;have q:=HQ.out.1;have hq:p+i<H.length:=AD;unfold hdO at q;rw[if_pos (by rw[CI];omega),show ((p:Int)+i).toNat=p+i by omega,show (p:Int)+(i:Nat)=((p+i:Nat):Int) by omega,kJ AD hq AD]at q;rw[show (p:Int)+((i+1:Nat):Int)=((p+i:Nat):Int)+1 by omega];exact q
    ·obtain rfl:i=d:=AD
     have i1:decide ((p:Int)+i<(p:Int)+i)=false:=Ar;clear MI D4 fe;go_wp2_with fail;go_roundg (T.length-(j+1))
     case measure=>omega
     case rel=>exact ⟨j+1,rfl,AD,by go_num,K2,by rw[HTJ.out];exact d8.out,Hw.out⟩
  ·obtain rfl:j=nT:=AD
   have i0:decide ((j:Int)<(j:Int))=false:=Ar;clear hs hc;go_wp2_with fail;refine bodyPost_end (v:=.tuple #[]) (by simp[results,results111,go_sem]) rfl ?_;refine ⟨rfl,K1,?_,Z0.out⟩;have:=HS.out
   rwa [List.take_of_length_le (Nat.le_of_eq HN.out)]at this
theorem lh(hi:i<M.length)(hf:f+M.length<=L.length):(G_ L (M.take i) f i).set (f+i) M[i]=G_ L (M.take (i+1)) f (i+1):=by
 unfold G_;have h1:(L.take f++M.take i).length=f+i:=by rw[length_append,length_take,length_take];omega
 rw[List.set_append_right _ _ AD,h1,Nat.sub_self,List.take_succ_eq_append_getElem hi,List.drop_eq_getElem_cons (show f+i<L.length by omega),List.set_cons_zero,<-List.append_assoc,List.append_assoc _ [M[i]],show f+i+1=f+(i+1) by omega];rfl
theorem Py{α:Type}{L M:List α}(h:f+i<=L.length)(hM:M.length=i):(G_ L M f i).length=L.length:=by
 unfold G_;rw[length_append,length_append,length_take,List.length_drop];omega
theorem e_(ok:Sw b S)(wd:Int){k:Nat}(hk:k<=(Ap 0 b).length):CF (Bu wd (A_ b b k) (A_ b S k))=false:=by
 have fd:=FN ok.O6 k (b:=b);obtain ⟨s0,n0,e1,e2,e3,e4,e5⟩:=ok.line hk;have h9:=ok.len;have h1:=LV (wd:=wd) (st:=A_ b S k) fd;have h2:=SF (wd:=wd) (l:=A_ b b k) (st:=A_ b S k);unfold CF Bu;exact decide_eq_false (by simp only;omega)
theorem Nk(ok:Sw b S)(wd:Int){f n:Nat}(hn:f+n<=(Ap 0 b).length+1):∀r∈Fq (Bu wd) b S f n,CF r=false:=by
 intro r hr;obtain ⟨k,hk,rfl⟩:=List.mem_map.1 hr;rw[List.mem_range]at hk;exact e_ ok wd AD
theorem MP{x:ES}{m:Sc}(f n:Nat)(w:World)(h:Dr B w s x m b S L H)(ok:Sw b S)(hg:Dh w)(hB:B<=w.heap.size)(Pu:BO m.wd)(S6:0<=m.ld/\m.ld<=2000000000)(hn:f+n<=(Ap 0 b).length+1)(hL:L.length=(Ap 0 b).length+1):
 Calls prog 69 #[.pointer (some ⟨s,0,none⟩),.int .i64 (f:Int),.int .i64 ((f:Int)+n-1)] w fun e w'=>e=.returned (.tuple #[])/\MY B w s x {m with ld:=m.ld+n} b S (G_ L (Fq (Bu m.wd) b S f n) f n) H w':=by
 have HM:=AC (Rv f n w h ok hg hB Pu S6 hn);have HG:=AC (Nk ok m.wd hn);have sr:(Ap 0 b).length<=900:=Nat.le_trans (Dg b 0) ok.len;have hSL:=Py (L:=L) (M:=Fq (Bu m.wd) b S f n) (f:=f) (i:=n) AD (IQ _ _ _ _ _);obtain ⟨M,hM⟩:=BZ (Fq (Bu m.wd) b S f n);have hMl:M.length=n:=by rw[<-hM];exact IQ _ _ _ _ _
 rw[hM]at HM HG ⊢;have tZ:=AC hMl;have XG:=AC (show f+M.length<=L.length by omega);have hfn:f+n<=1000:=AD;have RA:=AC h;have hKs:∀q∈x.K,q<w.heap.size:=fun q hq=>(h.RF.mB q hq).2
 have dM:=AC (fun (i:Nat) (hi:i<M.length) (K:List Nat) (w':World) (h':Dr B w' s {x with K:=K} {m with ld:=m.ld+n} b S (G_ L (M.take i) f i) H)=>(by
  have q:=X7 x.hg K (G_ L (M.take i) f i) H ((f:Int)+i) M[i].1 M[i].2 w' h'.RF;have e1:(G_ L (M.take i) f i).length=L.length:=Py (by have:=XG.out;omega) (by rw[length_take];omega);obtain ⟨q1,q2⟩:=Ky (l:=G_ L (M.take i) f i) (i:=(f:Int)+i) (x:=M[i]) (by have:=XG.out;omega) (HG _ (getElem_mem hi));have e3:Fd (G_ L (M.take i) f i) ((f:Int)+i) (M[i].1,M[i].2)=G_ L (M.take (i+1)) f (i+1):=by
   rw[show (M[i].1,M[i].2)=M[i] from rfl,q2,show ((f:Int)+i).toNat=f+i by omega];exact lh hi XG.out
  rw[e3]at q;exact q.mono fun e Bg ⟨h1,h2⟩=>⟨_,h1,h'.KQ h2⟩:Calls prog 108 #[.pointer (some ⟨x.hg,0,none⟩),.int .i64 ((f:Int)+i),.agg #[.int .i64 M[i].1,.int .i64 M[i].2]] w' fun e Bg=>∃c:Int,e=.returned (.int .i64 c)/\∃K',Dr B Bg s {x with K:=K'} {m with ld:=m.ld+n} b S (G_ L (M.take (i+1)) f (i+1)) H/\(∀q∈K',q∈K\/w'.heap.size<=q)/\Ch B w' Bg/\AZ (HC B w' x.hg K) w' Bg))
 clear h ok hg Pu hn hL hSL hM;go_enter func69,ntmps69;go_wp2_with fail;refine HM.out.mono ?_;rintro e w2 ⟨u,w1,rfl,a1,e2,o2⟩;have Z3:=RA.out.later a1;have MI:Dr B w2 s x {m with ld:=m.ld+n} b S L H:=by
  rw[e2];exact Z3.store (m':={m with ld:=m.ld+n}) (by simp[KF]) ⟨rfl,rfl,rfl,rfl,rfl,rfl⟩ Z3.runs Z3.ends Z3.Hl
 have D4:Ch B w w2:=by
  rw[e2];exact AZ.setCell (.of a1) RA.out.self _
 have hu:∀k,u.ownBlock=some k->k∉x.K:=fun k hk hm=>by
  have q1:=DI o2 k hk;have q2:=hKs k hm;omega
 have d8:=AC MI;have Hw:=AC D4;have HU:=AC hu;have HO:=AC o2;obtain ⟨A1,Cg,rfl,JY,-⟩:=OQ.rq o2;rw[hMl]at HO HU JY ⊢;clear o2 hu Z3 MI D4 e2 hKs;go_wp2_with fail;go_loopg [13] n (fun kk iv wr=>∃(i:Nat) (Ki:List Nat),kk=n-i/\i<=n/\iv=.int .i64 (i:Int)/\Dr B wr s {x with K:=Ki} {m with ld:=m.ld+n} b S (G_ L (M.take i) f i) H/\Ch B w wr/\OQ 61 wr w.heap.size (.slice A1 n Cg) M/\∀k,(Value.slice A1 n Cg).ownBlock=some k->k∉Ki)
 case atStart=>
  refine ⟨0,x.K,AD,AD,rfl,?_,Hw.out,HO.out,HU.out⟩;have e:G_ L (M.take 0) f 0=L:=by unfold G_;rw[List.take_zero,List.append_nil,Nat.add_zero,List.take_append_drop]
  rw[e];exact d8.out
 case round=>
  obtain ⟨i,Ki,hk,hi,rfl,hs,hc,ho,hu⟩:=hrel;have HS:=AC hs;have Z0:=AC hc;have HO1:=AC ho;have HU1:=AC hu;have CR:=hs.CT;have u_:=dM;obtain ⟨tg,g,y_,t,K,v1,v2,v3⟩:=x;obtain ⟨mb,mS,mF,most,wd,ld⟩:=m;simp only[KF]at CR;have AW:=AA.refl wr;have Dy:=AE CR;by_cases BN:i<n
  ·have lj:i<M.length:=by rw[tZ.out];exact BN
   have i0:(i:Int)<(n:Int):=AD;obtain ⟨A',DZ,e1,-,Eu⟩:=OQ.rq ho;cases e1;obtain ⟨b1,off,rfl,hb,Qv⟩:=Eu AD;obtain ⟨c0,c1⟩:=Qv i lj;have uN:=AC (fun w' h'=>dM i lj Ki w' h');generalize M[i]=r at *;obtain ⟨r1,r2⟩:=r;simp only at c0 c1 uN
   have i1:(f:Int)+i<=3000:=AD;clear hs hc ho hu Eu Qv u_;go_wp2_with fail;refine JL wr (wr.heap.size) (.cells #[.int .i64 r1,.int .i64 r2] 61) ?_;intro w3 AX BD;have An:=AW.trans AX;have Ah:=AB AX CR;(try clear Dy);apply Ac (8) [] AY AY Ar
   case hstab=>
    intro e he v x y BE hv;simp only[mem_cons,List.not_mem_nil,or_false]at he
   case hlex=>
    intro U;have q0:=fun (v:BA (later U))=>AE (AB ⟨v,rfl⟩ (AB ⟨U,rfl⟩ Ah))
    have q1:=fun (v:BA (later U))=>AE (AB ⟨v,rfl⟩ (AB ⟨U,rfl⟩ BD))
    refine Ku ?_
    repeat (go_big_quiet_step (first|fail))
    exact wpQuiet_nil rfl
   case hown=>
    intro e he o ho;simp only[mem_cons,List.not_mem_nil,or_false]at he
   case htail=>
    intro g u Aw Az;have Ao:AA w3 (later u):=⟨u,rfl⟩;generalize later u=w4 at *;clear u;clear Aw Az;refine DH ?_;have Bl:=An.trans Ao;have BK:=AB Ao Ah;have CE:=AB Ao BD;obtain ⟨Dz,FK⟩:=DX BK;obtain ⟨Is,Me⟩:=DX CE;have WP:=AC Bl;clear Dz FK Is Me;go_wp2_with fail;refine (uN w4 (HS.out.later WP.out)).mono ?_;rintro e w5 ⟨c,rfl,K5,q1,q2,q3,q4⟩;have HQ:=AC (And.intro q1 (Z0.out.trans ((Ch.of WP.out).trans q3)));have oR:=AC (dO (HS.out.later WP.out).RF q4 (OQ.later WP HO1.out) HU1.out);have HU5:Hid (∀k,(Value.slice (some ⟨b1,off,none⟩) M.length Cg).ownBlock=some k->k∉K5):=AC (fun k hk hm=>by
     rcases q2 k hm with q|q
     ·exact HU1 k hk q
     ·rcases HO1.out.2 with ⟨e,_⟩|⟨g',DZ,cur,e,h1,h2,_⟩
      ·cases e
      ·rw[e]at hk;have Gh:some g'=some k:=hk;have O4:=Option.some.inj Gh;have:=As (AB WP h2)
       omega)
    clear q1 q2 q3 q4;go_wp2_with fail;go_roundg (M.length-(i+1))
    case measure=>omega
    case rel=>exact ⟨i+1,K5,rfl,AD,by go_num,HQ.out.1,HQ.out.2,oR.out,HU5.out⟩
  ·obtain rfl:i=n:=AD
   have i0:decide ((i:Int)<(i:Int))=false:=Ar;clear hs hc ho hu;go_wp2_with fail;refine bodyPost_end (v:=.tuple #[]) (by simp[results,results69,go_sem]) rfl ⟨rfl,Ki,?_,Z0.out⟩;have q:=HS.out;rwa [List.take_of_length_le (Nat.le_of_eq tZ.out)]at q
end
section
structure KD(B:Nat)(w:World)(s:Nat)(x:ES)(m:Sc):Prop where
 ok:m.Ok
 p:Dr B w s x m m.b m.S (Co (Bu m.wd) m.b m.S) (Be m.b m.F)
theorem KD.later{B:Nat}{w w':World}{s:Nat}{x:ES}{m:Sc}(h:KD B w s x m)(a:AA w w'):KD B w' s x m:=⟨h.ok,h.p.later a⟩
theorem KD.asks{B:Nat}{w:World}{s:Nat}{x:ES}{m:Sc}(h:KD B w s x m):Cf w x.v1 (BM m.S):=by
 have l:=C5 m.S;have h1:=h.ok.sl;have h2:=h.ok.len;refine ⟨h.p.runs,fun r hr=>?_,AD⟩;have q:=N0 h.ok.sg AD r hr;have q2:=Hn (Cz (h.ok.t.W9 r hr)).2.2;constructor <;> constructor <;> omega
theorem KD.sR{B:Nat}{w:World}{s:Nat}{x:ES}{m:Sc}(h:KD B w s x m):sR (BM m.S)=m.S:=ar h.ok.sg (by have h1:=h.ok.sl;have h2:=h.ok.len;omega)
theorem KD.nf{B:Nat}{w:World}{s:Nat}{x:ES}{m:Sc}(h:KD B w s x m):(Ap 0 m.b).length<=900:=Nat.le_trans (Dg m.b 0) h.ok.len
theorem Sc.Ok.kL{m:Sc}(h:m.Ok):BO m.wd:=by have:=h.wd;constructor <;> omega
theorem Dr.NG{B:Nat}{w:World}{s:Nat}{x:ES}{m:Sc}{b S S':List Int}{L:Qs}{H:List Bool}{u1 u2:Value}(h:Dr B w s x m b S L H)(hr:Mc w u1 (BM S'))(he:RT .i64 3 w u2 (Cu (BM S'))):Dr B ((w.setCell ⟨s,2,none⟩ u1).setCell ⟨s,3,none⟩ u2) s {x with v1:=u1,v2:=u2} m b S' L H:=by
 have st:AZ (fun k=>k=s) w ((w.setCell ⟨s,2,none⟩ u1).setCell ⟨s,3,none⟩ u2):=((AZ.refl (fun k=>k=s) w).setCell (b:=s) rfl u1).setCell (b:=s) rfl u2;have c:Ch B w ((w.setCell ⟨s,2,none⟩ u1).setCell ⟨s,3,none⟩ u2):=AZ.wide st (fun k _ hk=>by
  obtain rfl:k=s:=hk
  exact h.self)
 have hg:x.g≠s:=fun q=>by
  obtain ⟨_,rv,h2,_⟩:=h.tx;rw[q,h.CT]at h2;cases h2
 refine ⟨BI (BI h.CT rfl) (by simp[KF]),h.tx.zB c (Bh hg (Bh hg rfl)),h.tok,h.tb,hr.ch c,he.ch c Js,h.Hl.ch c,?_,h.bs,h.bg⟩;exact h.RF.off st (fun k hk=>by
  obtain rfl:k=s:=hk
  exact ⟨_,_,_,h.CT,.inl rfl⟩)
theorem Ch.NG{B:Nat}{w:World}{s:Nat}{x:ES}{m:Sc}{b S:List Int}{L:Qs}{H:List Bool}(h:Dr B w s x m b S L H)(u1 u2:Value):Ch B w ((w.setCell ⟨s,2,none⟩ u1).setCell ⟨s,3,none⟩ u2):=
 AZ.setCell (AZ.setCell (AZ.refl _ w) h.self u1) h.self u2
theorem Dr.as{B:Nat}{w:World}{s:Nat}{x:ES}{m m':Sc}{b S:List Int}{L:Qs}{H:List Bool}(h:Dr B w s x m b S L H)(e1:m'.most=m.most)(e2:m'.F=m.F)(e3:m'.wd=m.wd)(e4:m'.ld=m.ld):Dr B w s x m' b S L H:=by
 have hb:=h.CT;have ht:=h.tx;have hf:=h.Hl;refine ⟨?_,by rw[e1];exact ht,h.tok,h.tb,h.runs,h.ends,by rw[e2];exact hf,h.RF,h.bs,h.bg⟩;unfold KF at *;rw[e1,e3,e4];exact hb
section
set_option maxRecDepth 100000
theorem S9{B s:Nat}{x:ES}{m:Sc}{b S:List Int}{L:Qs}{H:List Bool}(w:World)(h:Dr B w s x m b S L H):Calls prog 17 #[.pointer (some ⟨s,0,none⟩)] w fun e w'=>e=.returned (.pointer (some ⟨x.tg,0,none⟩))/\AA w w':=by
 have Ag:=h.CT;simp only[KF]at Ag;have Bx:=AE Ag;clear h;go_enter func17,ntmps17;go_wp2_with fail;go_ret;exact ⟨rfl,AA.refl _⟩
theorem Je{B s:Nat}{x:ES}{m:Sc}{b S:List Int}{L:Qs}{H:List Bool}(w:World)(h:Dr B w s x m b S L H):Calls prog 26 #[.pointer (some ⟨s,0,none⟩)] w fun e w'=>e=.returned (.pointer (some ⟨x.hg,0,none⟩))/\AA w w':=by
 have Ag:=h.CT;simp only[KF]at Ag;have Bx:=AE Ag;clear h;go_enter func26,ntmps26;go_wp2_with fail;go_ret;exact ⟨rfl,AA.refl _⟩
theorem YW{B s:Nat}{x:ES}{m:Sc}{b S:List Int}{L:Qs}{H:List Bool}(w:World)(h:Dr B w s x m b S L H):Calls prog 19 #[.pointer (some ⟨s,0,none⟩)] w fun e w'=>e=.returned (.int .i64 m.wd)/\AA w w':=by
 have Ag:=h.CT;simp only[KF]at Ag;have Bx:=AE Ag;clear h;go_enter func19,ntmps19;go_wp2_with fail;go_ret;exact ⟨rfl,AA.refl _⟩
theorem dw{B s:Nat}{x:ES}{m:Sc}(w:World)(h:KD B w s x m):Calls prog 21 #[.pointer (some ⟨s,0,none⟩)] w (JZ w (BM m.S)):=by
 have HC:=AC (MZ x.v1 (BM m.S) w h.p.runs.1 (by have:=h.asks.2.2;omega));have Ag:=h.p.CT;simp only[KF]at Ag;have Bx:=AE Ag;clear h;go_enter func21,ntmps21;go_wp2_with fail;refine HC.out.mono ?_;rintro e w1 ⟨u,rfl,a1,o1⟩;have HO:=AC (And.intro a1 o1);obtain ⟨A,c,rfl,-⟩:=o1.reads;generalize (BM m.S).length=n at *;clear a1 o1;go_wp2_with fail;go_ret;exact ⟨_,rfl,HO.out⟩
theorem X9{B s:Nat}{x:ES}{m:Sc}(w:World)(h:KD B w s x m):Calls prog 22 #[.pointer (some ⟨s,0,none⟩)] w (Qh w m.F):=by
 have HC:=AC (QG x.v3 m.F w h.p.Hl.1 (by have:=h.ok.fl;omega));have Ag:=h.p.CT;simp only[KF]at Ag;have Bx:=AE Ag;clear h;go_enter func22,ntmps22;go_wp2_with fail;refine HC.out.mono ?_;rintro e w1 ⟨u,rfl,a1,o1⟩;have HO:=AC (And.intro a1 o1);obtain ⟨A,c,rfl,-⟩:=(OQ.rq o1).form;generalize m.F.length=n at *;clear a1 o1;go_wp2_with fail;go_ret;exact ⟨_,rfl,HO.out⟩
end
end
section
variable{x:ES}{H:List Bool}{S b:List Int}{B s:Nat}{L:Qs}{m:Sc}{u:Value}{w w':World}
theorem WZ{N:Int}:∀(T:Qs) (lo:Int),lo<=N->(∀r∈T,lo<=r.1/\r.1<r.2/\r.2<=N)->(T.Pairwise fun b c=>b.2<c.1)->(T.length:Int)<=N-lo
 |[],lo,h0,_,_=>by simp;omega
 |r::T,lo,h0,h,hp=>by
  have h1:=h r Ar;obtain ⟨h2,h3⟩:=List.pairwise_cons.1 hp;have:=WZ T r.2 h1.2.2 (fun q hq=>by
   have:=h2 q hq
   have:=h q (List.mem_cons_of_mem _ hq)
   omega) h3
  rw[List.length_cons];omega
theorem NB{T:Qs}{N:Nat}(hg:CK T)(hy:∀y,C9 T y=true->0<=y/\y<(N:Int)):(∀r∈T,0<=r.1/\r.1<r.2/\r.2<=(N:Int))/\T.length<=N:=by
 have h1:∀r∈T,0<=r.1/\r.1<r.2/\r.2<=(N:Int):=fun r hr=>by
  have q:=hg.1 r hr;have q1:=hy r.1 (by unfold C9;exact List.any_eq_true.2 ⟨r,hr,decide_eq_true AD⟩);have q2:=hy (r.2-1) (by unfold C9;exact List.any_eq_true.2 ⟨r,hr,decide_eq_true AD⟩);omega
 have:=WZ T 0 AD h1 hg.2
 exact ⟨h1,AD⟩
def BG(p:Int->Bool)(u:Value)(w:World):Prop:=∃T,l6 w u T/\CK T/\∀y,C9 T y=p y
theorem BG.later{p:Int->Bool}(a:AA w w')(h:BG p u w):BG p u w':=by
 obtain ⟨T,h1,h2⟩:=h;exact ⟨T,h1.later a,h2⟩
theorem BG.ch{p:Int->Bool}(h:BG p u w)(c:Ch B w w'):BG p u w':=by
 obtain ⟨T,h1,h2⟩:=h;exact ⟨T,h1.ch c,h2⟩
theorem BG.form{p:Int->Bool}(h:BG p u w):∃A n cap,u=.slice A n cap:=by
 obtain ⟨T,⟨⟨A,cap,e,_⟩,_⟩,_⟩:=h;exact ⟨A,_,cap,e⟩
theorem QC(v:Value)(p:Int->Bool)(on:Bool)(w:World)(h:Dr B w s x m b S L H)(hv:BG p v w)(hp:∀y,p y=true->0<=y/\y<(H.length:Int)):
 Calls prog 111 #[.pointer (some ⟨s,0,none⟩),v,.bool on] w fun e w'=>e=.returned (.tuple #[])/\∃T,(∀y,C9 T y=p y)/\MY B w s x m b S L (Gr T on H) w':=by
 obtain ⟨T,h1,h2,h3⟩:=hv;obtain ⟨q1,q2⟩:=NB h2 (fun y hy=>hp y (by rw[<-h3];exact hy));have hlen:=h.RF.mA.2;have IY:=h.RF.len;exact (cW v T on w h h1 q1 AD).mono fun e w' ⟨e1,e2⟩=>⟨e1,T,h3,e2⟩
theorem Nt{l:Qs}{y:Int}(h:Gz (Ap 0 b) b.length y l=true):0<=y/\y<(((Ap 0 b).length+1:Nat):Int):=by
 have:=mU h
 omega
theorem KZ(v:Value)(l:Qs)(w:World)(h:Dr B w s x m b S L H)(hv:QR w v l)(hl:l.length<=900):
 Calls prog 110 #[v,.pointer (some ⟨x.tg,0,none⟩)] w fun e w'=>∃u,e=.returned u/\AA w w'/\BG (fun y=>Gz (Ap 0 b) b.length y l) u w':=by
 refine (TT v l x.tg x.g m.most x.t w hv AD h.tx h.tok).mono ?_;rintro e w' ⟨u,T,rfl,a,h1,h2,h3⟩;refine ⟨u,rfl,a,T,h1,h2,fun y=>?_⟩;have q:=h3 y;unfold J_ at q;rw[<-Tr.Bv,h.tb]at q;exact q
theorem OD(v v2:Value)(p q:Int->Bool)(N:Nat)(w:World)(h:BG p v w)(h2:BG q v2 w)(hN:N<=5000)(hp:∀y,p y=true->0<=y/\y<(N:Int))(hq:∀y,q y=true->0<=y/\y<(N:Int)):
 Calls prog 112 #[v,v2] w fun e w'=>∃u,e=.returned u/\AA w w'/\BG (fun y=>p y && !q y) u w':=by
 obtain ⟨T,t1,t2,t3⟩:=h;obtain ⟨U,u1,u2,u3⟩:=h2;have l1:=(NB t2 (fun y hy=>hp y (by rw[<-t3];exact hy))).2;have l2:=(NB u2 (fun y hy=>hq y (by rw[<-u3];exact hy))).2;refine (bj v v2 T U w t1.1 u1.1 AD AD).mono ?_;rintro e w' ⟨u,R,rfl,a,h1,h2,h3⟩;exact ⟨u,rfl,a,R,h1,h2,fun y=>by have:=h3 y;simp only at this;rw[this,t3,u3]⟩
theorem Ng(u:Value)(F2:Qs)(w:World)(h:Dr B w s x m b S L (Be b m.F))(hu:QT w u F2)(hF:m.F.length<=900)(xF:F2.length<=900)(hb:b.length<=900):
 Calls prog 71 #[.pointer (some ⟨s,0,none⟩),u] w fun e w'=>e=.returned (.tuple #[])/\∃K',Dr B w' s {x with K:=K',v3:=u} {m with F:=F2} b S L (Be b F2)/\Ch B w w':=by
 have yW:=Dg b 0;have HH1:=AC (fun (w':World) (a:AA w w')=>KZ x.v3 m.F w' (h.later a) (h.Hl.1.later a) hF);have HH2:=AC (fun (w':World) (a:AA w w')=>KZ u F2 w' (h.later a) (hu.1.later a) xF);obtain ⟨P,hP⟩:∃P:Int->Bool,(fun y=>Gz (Ap 0 b) b.length y m.F)=P:=⟨_,rfl⟩;obtain ⟨Q,hQ⟩:∃Q:Int->Bool,(fun y=>Gz (Ap 0 b) b.length y F2)=Q:=⟨_,rfl⟩;have pk:∀y,P y=true->0<=y/\y<(((Ap 0 b).length+1:Nat):Int):=fun y hy=>Nt (l:=m.F) (by rw[<-hP]at hy;exact hy)
 have yi:∀y,Q y=true->0<=y/\y<(((Ap 0 b).length+1:Nat):Int):=fun y hy=>Nt (l:=F2) (by rw[<-hQ]at hy;exact hy)
 rw[hP]at HH1;rw[hQ]at HH2;have mE:=AC (fun (w':World) (v v2:Value) (h1:BG P v w') (h2:BG Q v2 w')=>OD v v2 P Q ((Ap 0 b).length+1) w' h1 h2 AD pk yi);have UT:=AC (fun (w':World) (v v2:Value) (h1:BG Q v w') (h2:BG P v2 w')=>OD v v2 Q P ((Ap 0 b).length+1) w' h1 h2 AD yi pk);have HD:=AC (fun (v:Value) (p:Int->Bool) (on:Bool) (w':World) (K:List Nat) (H':List Bool) (h':Dr B w' s {x with K:=K} m b S L H') (hv:BG p v w') (hp:∀y,p y=true->0<=y/\y<(H'.length:Int))=>QC v p on w' h' hv hp);have rm:Hid (∀T1 T2:Qs,(∀y,C9 T1 y=(P y && !Q y))->(∀y,C9 T2 y=(Q y && !P y))->Gr T2 true (Gr T1 false (Be b m.F))=Be b F2):=AC (fun T1 T2 h1 h2=>ct (fun y=>by rw[h1,<-hP,<-hQ]) (fun y=>by rw[h2,<-hP,<-hQ]));have HPR:Hid (∀y,(P y && !Q y)=true->0<=y/\y<(((Be b m.F).length:Nat):Int)):=AC (fun y hy=>by rw[BT];exact pk y (Bool.and_eq_true_iff.1 hy).1);have HQR:Hid (∀y,(Q y && !P y)=true->0<=y/\y<(((Be b m.F).length:Nat):Int)):=AC (fun y hy=>by rw[BT];exact yi y (Bool.and_eq_true_iff.1 hy).1);have HU:=AC hu;have HS:=AC h;have Ag:=h.CT;simp only[KF]at Ag;obtain ⟨A1,Cg,rfl,-⟩:=hu.1.form;generalize F2.length=n2 at *;clear h hu hF xF hb hP hQ pk yi yW;go_enter func71,ntmps71;go_wp2_with fail;apply Wild.AP (17) [⟨8,14,undef,true,BG P⟩,⟨14,20,undef,true,BG Q⟩,⟨15,4,undef,true,BG P⟩,⟨16,5,undef,true,BG Q⟩] [⟨8,14,BG P⟩,⟨14,20,BG Q⟩,⟨15,4,BG P⟩,⟨16,5,BG Q⟩] rfl AY AY AY Ar AY
 case hstab=>
  intro c hc;rcases Cv hc with rfl|rfl|rfl|rfl
  ·intro v x y BE hv;exact (fun h k=>BG.later h k) BE hv
  ·intro v x y BE hv;exact (fun h k=>BG.later h k) BE hv
  ·intro v x y BE hv;exact (fun h k=>BG.later h k) BE hv
  ·intro v x y BE hv;exact (fun h k=>BG.later h k) BE hv
 case hfix=>
  intro c hc;rcases Cv hc with rfl|rfl|rfl|rfl
  ·exact .inl rfl
  ·exact .inl rfl
  ·exact .inl rfl
  ·exact .inl rfl
 case hlex=>
  intro U hU;have q0:=AE (AB hU Ag);refine Hj ?_
  repeat (go_big_quiet_step (fail))
  exact wpQuiet_nil rfl
 case hstep=>
  intro j hj o ho;have CQ:j=0\/j=1\/j=2\/j=3:=by simp at hj;omega
  rcases CQ with rfl|rfl|rfl|rfl
  ·cases ho;refine ⟨rfl,fun g x hx hp=>?_⟩;clear hp;refine Bp ?_;refine AO ?_ (Wild.Ai (HH1 x hx));simp[go_sem,execOp]
  ·cases ho;refine ⟨rfl,fun g x hx hp=>?_⟩;clear hp;refine Bp ?_;refine AO ?_ (Wild.Ai (HH2 x hx));simp[go_sem,execOp]
  ·cases ho;refine ⟨rfl,fun g x hx hp=>?_⟩;have p14:(BG P) (g 8) x:=hp _ (mem_of_getElem? (i:=0) rfl) (List.contains_iff_mem.1 AY);clear hp;refine Bp ?_;refine Wild.Dv (v:=g 8) ?_ p14;simp[go_sem,execOp]
  ·cases ho;refine ⟨rfl,fun g x hx hp=>?_⟩;have xi:(BG Q) (g 14) x:=hp _ (mem_of_getElem? (i:=1) rfl) (List.contains_iff_mem.1 AY);clear hp;refine Bp ?_;refine Wild.Dv (v:=g 14) ?_ xi;simp[go_sem,execOp]
 case htail=>
  intro g u Aw Az;have AJ:AA w (later u):=⟨u,rfl⟩;generalize later u=w1 at *;clear u Az;obtain ⟨i_,-⟩:=Aw _ (mem_of_getElem? (i:=0) rfl);(try dsimp only at i_)
  obtain ⟨lM,-⟩:=Aw _ (mem_of_getElem? (i:=1) rfl);(try dsimp only at lM)
  obtain ⟨Z5,-⟩:=Aw _ (mem_of_getElem? (i:=2) rfl);(try dsimp only at Z5)
  obtain ⟨Zr,-⟩:=Aw _ (mem_of_getElem? (i:=3) rfl);(try dsimp only at Zr)
  clear Aw;refine DH ?_;generalize g 8=v14 at *;generalize g 14=v20 at *;generalize g 15=v4 at *;generalize g 16=v5 at *;have AG:=AJ;have AH:=AB AJ Ag;obtain ⟨B7,Eg⟩:=DX AH;have Zv:=AC Z5;have uV:=AC Zr;obtain ⟨A4,n4,c4,rfl⟩:=Z5.form;obtain ⟨A5,n5,c5,rfl⟩:=Zr.form;have Ej:=AC AG;clear i_ lM Z5 Zr AJ B7 Eg;go_wp2_with fail;refine (mE w1 _ _ Zv uV.out).mono ?_;rintro e w2 ⟨u2,rfl,b2,q2⟩;have SB:=AC (And.intro b2 q2);obtain ⟨A6,n6,c6,rfl⟩:=q2.form;clear b2 q2;go_wp2_with fail;refine (HD _ _ false w2 x.K _ (HS.out.later (Ej.out.trans SB.out.1)) SB.out.2 HPR.out).mono ?_;rintro e w3 ⟨rfl,T1,t1,K1,Z3,Om⟩;have qD:=AC (And.intro t1 (And.intro Z3 Om));clear t1 Z3 Om;have X14:=AC ((Zv.out.later SB.out.1).ch qD.out.2.2);have Z12:=AC ((uV.out.later SB.out.1).ch qD.out.2.2);go_wp2_with fail;refine (UT w3 _ _ Z12 X14.out).mono ?_;rintro e w4 ⟨u4,rfl,b4,q4⟩;have HQ4:=AC (And.intro b4 q4);obtain ⟨A8,n8,c8,rfl⟩:=q4.form;clear b4 q4;go_wp2_with fail;refine (HD _ _ true w4 K1 _ (qD.out.2.1.later HQ4.out.1) HQ4.out.2 (fun y hy=>by rw[CI];exact HQR y hy)).mono ?_;rintro e w5 ⟨rfl,T2,t2,K2,MI,D4⟩;have yO:=AC (And.intro t2 (And.intro MI D4));have DD:=MI.CT;simp only[KF]at DD;obtain ⟨ND,Rk⟩:=DX DD;clear t2 MI D4;go_wp2_with fail;have hc5:Ch B w w5:=(Ch.of (Ej.out.trans SB.out.1)).trans (qD.out.2.2.trans ((Ch.of HQ4.out.1).trans yO.out.2.2));refine bodyPost_end (v:=.tuple #[]) (by simp[results,results71,go_sem]) rfl ⟨rfl,K2,?_,?_⟩
  ·have q:=yO.out.2.1;rw[rm T1 T2 qD.out.1 yO.out.1]at q;exact q.store (x':={x with K:=K2,v3:=.slice A1 n2 Cg}) (m':={m with F:=F2}) (by simp[KF]) ⟨rfl,rfl,rfl,rfl,rfl,rfl⟩ q.runs q.ends (HU.out.ch hc5)
  ·exact Ch.trans hc5 (AZ.setCell (AZ.refl _ _) yO.out.2.1.self _)
end
end Go.Proofs.YtamhnffokoejjaaGreatDoor
