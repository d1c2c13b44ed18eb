import Derived.Test.YtamhnffokoejjaaGreatDoorKwaz
set_option linter.all false
set_option maxHeartbeats 1600000
set_option maxRecDepth 100000
namespace Go.Proofs.YtamhnffokoejjaaGreatDoor
open List(mem_cons append_nil take_nil drop_nil replicate length_replicate length_append)
open Nat(le_trans zero_add)
open Go.Proofs.Tryz
open Go.RowKit
section
variable {B:Nat}
def Ba(B:Nat)(w:World)(hg k:Nat)(cs:Array Value)(c:Cw)(l:Qs)(w':World):Prop:=∃v' c',w'.heap[hg]?=some (.cells (cs.setIfInBounds k v') 116)/\BU B w' v' c' l/\(∀b∈c'.bl,b∈c.bl\/w.heap.size<=b)/\(∀b,LU c' b->LU c b\/w.heap.size<=b)/\AZ (fun b=>b=hg\/LU c b) w w'
theorem EG{w:World}{v:Value}{c:Cw}{l:Qs}{hg:Nat}{cs:Array Value}(h:BU B w v c l)(hh:w.heap[hg]?=some (.cells cs 116)):¬RU w c hg:=by
 intro k;rcases k with k|⟨g,t,k1,k2⟩
 ·obtain ⟨_,La,e⟩:=h.rowAt k;rw[hh]at e;cases e
 ·rcases k2.kinds (h.EL k1).1 with ⟨_,rv,e2⟩|⟨_,cs,e2⟩|⟨_,cs,e2⟩
  ·rw[hh]at e2;cases e2
  ·rw[hh]at e2;cases e2
  ·rw[hh]at e2;cases e2
theorem kN{cs:Array Value}{k:Nat}{v:Value}(h:cs[k]?=some v):cs.setIfInBounds k v=cs:=by
 apply Array.ext_getElem?
 intro i;rw[Array.getElem?_setIfInBounds];split
 ·rename_i e
  subst e;obtain ⟨hk,e2⟩:=Array.getElem?_eq_some_iff.1 h;rw[if_pos hk,h]
 ·rfl
theorem BU.own{w w1 w2 w':World}{g:Nat}{v:Value}{c:Cw}{l l2:Qs}{t:Ht}(h:BU B w v c l)(hs:c.sq=some (g,t))(a:AA w w1)(q:KB B w1 g t l2 w2)(a2:AA w2 w'):∃t',t'.hs=l2/\BU B w' v ⟨c.row,some (g,t')⟩ l2/\(∀b∈(⟨c.row,some (g,t')⟩:Cw).bl,b∈c.bl\/w.heap.size<=b)/\(∀b,LU ⟨c.row,some (g,t')⟩ b->LU c b\/w.heap.size<=b)/\AZ (fun b=>b=g) w w':=by
 obtain ⟨⟨t',k1,k2,k3⟩,st⟩:=q;have Aw:AZ (fun b=>b=g) w w':=((AZ.of a).trans st).trans (.of a2);refine ⟨t',k2,⟨h.1,.inr ⟨g,t',rfl,k2,k1.later a2,Ct (h.aN hs) Aw (fun b hb hc=>?_)⟩⟩,fun b hb=>?_,fun b hb=>.inl ?_,Aw⟩
 ·rw[h.1]at hb;obtain ⟨_,La,e⟩:=h.rowAt hb;obtain ⟨rv,e2,_⟩:=(h.EL hs).1.obj;subst hc;rw[e]at e2;cases e2
 ·unfold Cw.bl at hb ⊢;rw[hs];simp only[List.mem_append,mem_cons]at hb ⊢;rcases hb with hb|hb|hb
  ·exact .inl (.inl hb)
  ·exact .inl (.inr (.inl hb))
  ·rcases k3 b hb with q|q
   ·exact .inl (.inr (.inr q))
   ·exact .inr (le_trans a.below.size q)
 ·rcases hb with hb|⟨g',t'',e,e2⟩
  ·exact .inl hb
  ·exact .inr ⟨g,t,hs,e2.trans (Prod.mk.inj (Option.some.inj e)).1.symm⟩
theorem Ba.own{w w1 w2 w':World}{hg k g:Nat}{cs:Array Value}{v:Value}{c:Cw}{l l2:Qs}{t:Ht}(h:BU B w v c l)(hs:c.sq=some (g,t))(hh:w.heap[hg]?=some (.cells cs 116))(hk:cs[k]?=some v)(a:AA w w1)(q:KB B w1 g t l2 w2)(a2:AA w2 w'):Ba B w hg k cs c l2 w':=by
 obtain ⟨t',_,k2,k3,k4,Aw⟩:=h.own hs a q a2;have qm:hg≠g:=fun e=>by
  obtain ⟨rv,e2,_⟩:=(h.EL hs).1.obj;subst e;rw[hh]at e2;cases e2
 exact ⟨v,⟨c.row,some (g,t')⟩,by rw[kN hk];exact Aw.own hh qm,k2,k3,k4,Aw.wide (fun b _ hb=>.inr (.inr ⟨g,t,hs,hb⟩))⟩
def wZ(b cap:Nat)(l:Qs)(w:World)(u:Ending)(w':World):Prop:=∃n,u=.returned (.slice (some ⟨b,0,none⟩) n cap)/\((n=1/\AA w w')\/(n=0/\l=[]/\∃w1,AA w w1/\w'=w1.setCell ⟨b,0,none⟩ (.pointer none)))
theorem ST(b cap g:Nat)(t:Ht)(cur:Array Value)(w:World)(h:Hs B w b g t)(hb:w.heap[b]?=some (.cells cur 166))(hc:1<=cap)(hs:cur.size=cap):Calls prog 224 #[.slice (some ⟨b,0,none⟩) 1 cap,.func (.func 225) #[] #[]] w (wZ b cap t.hs w):=by
 by_cases h0:t.hs.length=0
 ·refine (Xp b cap g t cur w h h0 hb hc hs).mono ?_;rintro u w' ⟨rfl,w1,a,e⟩;exact ⟨0,rfl,.inr ⟨rfl,List.eq_nil_of_length_eq_zero h0,w1,a,e⟩⟩
 ·refine (ZD b cap g t w h h0).mono ?_;rintro u w' ⟨rfl,a⟩;exact ⟨1,rfl,.inl ⟨rfl,a⟩⟩
theorem Ba.outs{w w1 w2 w3:World}{hg k g b cap n:Nat}{cs:Array Value}{c:Cw}{l l2:Qs}{t:Ht}(h:BU B w (.slice (some ⟨b,0,none⟩) 1 cap) c l)(hs:c.sq=some (g,t))(hh:w.heap[hg]?=some (.cells cs 116))(a:AA w w1)(q:KB B w1 g t l2 w2)(ho:(n=1/\AA w2 w3)\/(n=0/\l2=[]/\∃w1,AA w2 w1/\w3=w1.setCell ⟨b,0,none⟩ (.pointer none))):Ba B w hg k cs c l2 (w3.setCell ⟨hg,k,none⟩ (.slice (some ⟨b,0,none⟩) n cap)):=by
 have oh:c.row=some b:=h.1.symm;have qm:hg≠g:=fun e=>by
  obtain ⟨rv,e2,_⟩:=(h.EL hs).1.obj;subst e;rw[hh]at e2;cases e2
 have yW:hg≠b:=fun e=>by
  obtain ⟨_,La,e2⟩:=h.rowAt oh;rw[e,e2]at hh;cases hh
 rcases ho with ⟨rfl,a3⟩|⟨rfl,rfl,w4,a4,rfl⟩
 ·obtain ⟨t',_,k2,k3,k4,Aw⟩:=h.own hs a q a3;have h3:w3.heap[hg]?=some (.cells cs 116):=Aw.own hh qm;have ja:AZ (fun x=>x=hg) w3 (w3.setCell ⟨hg,k,none⟩ (.slice (some ⟨b,0,none⟩) 1 cap)):=(AZ.refl _ _).setCell (S:=fun x=>x=hg) rfl _;refine ⟨_,⟨c.row,some (g,t')⟩,BI h3 rfl,k2.stays ja (fun b hb e=>EG k2 h3 (e ▸ hb)),k3,k4,(Aw.wide (S':=fun x=>x=hg\/LU c x) (fun b _ hb=>.inr (.inr ⟨g,t,hs,hb⟩))).more ja (fun x hx=>.inl (.inl hx))⟩
 ·obtain ⟨t',_,k2,k3,k4,Aw⟩:=h.own hs a q a4;have h3:w4.heap[hg]?=some (.cells cs 116):=Aw.own hh qm;have h4:(w4.setCell ⟨b,0,none⟩ (.pointer none)).heap[hg]?=some (.cells cs 116):=Bh yW h3;obtain ⟨b',DZ,cur,e,e2,e3,e4,_,e5,e6,e7⟩:=k2.KW rfl;cases e;have h5:((w4.setCell ⟨b,0,none⟩ (.pointer none)).setCell ⟨hg,k,none⟩ (.slice (some ⟨b,0,none⟩) 0 cap)).heap[b]?=some (.cells (cur.setIfInBounds 0 (.pointer none)) 166):=Bh (fun e=>yW e.symm) (BI e4 rfl);refine ⟨_,⟨c.row,none⟩,BI h4 rfl,⟨h.1,.inl ⟨rfl,rfl,rfl,.inr ⟨b,cap,_,rfl,e3,h5,Nat.zero_le _,e6,by simp[e7],Ar⟩⟩⟩,fun x hx=>.inl ?_,fun x hx=>.inl ?_,?_⟩
  ·unfold Cw.bl at hx ⊢;simp only[append_nil]at hx;exact List.mem_append_left _ hx
  ·rcases hx with hx|⟨g',t'',e,_⟩
   ·exact .inl hx
   ·cases e
  ·exact ((Aw.wide (S':=fun x=>x=hg\/LU c x) (fun b _ hb=>.inr (.inr ⟨g,t,hs,hb⟩))).setCell (.inr (.inl oh)) _).setCell (.inl rfl) _
theorem XO(hg k:Nat)(cs:Array Value)(A:Option Addr)(cap:Nat)(c:Cw)(i:Int)(n:Int)(w:World)(hh:w.heap[hg]?=some (.cells cs 116))(hk:cs[k]?=some (.slice A 0 cap))(h:BU B w (.slice A 0 cap) c []):
 Calls prog 179 #[.pointer (some ⟨hg,k,none⟩),.int .i64 i,.int .i64 n] w fun e w'=>e=.returned (.tuple #[])/\Ba B w hg k cs c [] w':=by
 have HD:=AC (fun (w':World)=>Xt A cap w');have HE:Hid (∀w1,AA w w1->Ba B w hg k cs c [] (w1.setCell ⟨hg,k,none⟩ (.slice A 0 cap))):=AC (fun w1 a=>by
  have Aw:AZ (fun b=>b=hg) w (w1.setCell ⟨hg,k,none⟩ (.slice A 0 cap)):=(AZ.of a).setCell (S:=fun b=>b=hg) rfl _;refine ⟨_,c,BI (AB a hh) rfl,h.stays Aw (fun b hb e=>EG h hh (e ▸ hb)),fun b hb=>.inl hb,fun b hb=>.inl hb,Aw.wide (fun b _ e=>.inl e)⟩)
 obtain ⟨r0,f0,l0⟩:=GH hh;have Ag:=hh;clear h hh;go_enter func179,ntmps179;go_wp2_with fail;refine wp_loop_rounds 1 ?_;rw[rounds_succ];go_wp2_with fail;refine (HD _).mono ?_;rintro e w1 ⟨rfl,AJ⟩;have r1:=AE (AB AJ Ag);have f1:=Bq (AB AJ Ag);have HZ:=AC (HE w1 AJ);clear r0 f0 l0 Ag;go_wp2_with fail
 go_end0
 exact ⟨rfl,HZ.out⟩
theorem jM(hg k:Nat)(cs:Array Value)(b cap g:Nat)(t:Ht)(c:Cw)(i n:Nat)(w:World)(hh:w.heap[hg]?=some (.cells cs 116))(hk:cs[k]?=some (.slice (some ⟨b,0,none⟩) 1 cap))(h:BU B w (.slice (some ⟨b,0,none⟩) 1 cap) c t.hs)(hs:c.sq=some (g,t))(hi:i<t.hs.length)(hn:i+n<=t.hs.length):
 Calls prog 179 #[.pointer (some ⟨hg,k,none⟩),.int .i64 (i:Int),.int .i64 (n:Int)] w fun e w'=>e=.returned (.tuple #[])/\Ba B w hg k cs c (t.hs.take i++t.hs.drop (i+n)) w':=by
 obtain ⟨b',DZ,cur,e,e2,e3,e4,e5,e6,e7,e8⟩:=h.KW hs;cases e;obtain ⟨hq,-⟩:=h.EL hs;have hm:=hq.ok.most;have bC:Hs B w b g t:=⟨by rw[AE e4];exact e5,As e4,hq⟩;have qm:hg≠g:=fun e=>by
  obtain ⟨rv,e2,_⟩:=hq.obj;subst e;rw[hh]at e2;cases e2
 have hbg:b≠g:=fun e=>by
  obtain ⟨rv,e2,_⟩:=hq.obj;subst e;rw[e4]at e2;cases e2
 have HL:=AC (fun (w':World) (a:AA w w')=>CX (.pointer (some ⟨g,0,none⟩)) t w' (hq.q.Di.later a) hq.fit);have HQ:=AC (fun (w':World) (a:AA w w')=>k8 g t i n w' (hq.later a) hn);have HM:Hid (∀(w1 w2:World),AA w w1->KB B w1 g t (t.hs.take i++t.hs.drop (i+n)) w2->w2.heap[hg]?=some (.cells cs 116)/\Calls prog 224 #[.slice (some ⟨b,0,none⟩) 1 cap,.func (.func 225) #[] #[]] w2 (wZ b cap (t.hs.take i++t.hs.drop (i+n)) w2)):=AC (fun w1 w2 a q=>by
  obtain ⟨⟨t',k1,k2,k3⟩,st⟩:=id q;have e9:w2.heap[b]?=some (.cells cur 166):=st.own (AB a e4) hbg;refine ⟨st.own (AB a hh) qm,?_⟩;rw[<-k2];exact ST b cap g t' cur w2 ⟨by rw[AE e9];exact e5,As e9,k1⟩ e9 e6 e8)
 have HZ:Hid (∀(w1 w2 w3:World) (m:Nat),AA w w1->KB B w1 g t (t.hs.take i++t.hs.drop (i+n)) w2->((m=1/\AA w2 w3)\/(m=0/\t.hs.take i++t.hs.drop (i+n)=[]/\∃w1,AA w2 w1/\w3=w1.setCell ⟨b,0,none⟩ (.pointer none)))->Ba B w hg k cs c (t.hs.take i++t.hs.drop (i+n)) (w3.setCell ⟨hg,k,none⟩ (.slice (some ⟨b,0,none⟩) m cap))/\w3.heap[hg]?=some (.cells cs 116)):=AC (fun w1 w2 w3 m a q ho=>by
  refine ⟨Ba.outs h hs hh a q ho,?_⟩;have h2:w2.heap[hg]?=some (.cells cs 116):=q.2.own (AB a hh) qm;rcases ho with ⟨-,a3⟩|⟨-,-,w4,a4,rfl⟩
  ·exact AB a3 h2
  ·exact Bh (fun e=>by rw[e,e4]at hh;cases hh) (AB a4 h2))
 have c1:=bC.cell;have Ag:=hh;have Bx:=AE hh;clear h hs hh hq bC e2 e3 e4 e5 e6 e7 e8 qm hbg;generalize t.hs.take i++t.hs.drop (i+n)=l2 at *;generalize t.hs.length=m at *;have vp:∀(w:World) (ts:Array TypeId) (ty:TypeId),(Builtin.min_ ts ty #[.int .i64 (n:Int),.int .i64 ((m:Int)-(i:Int))]).run prog w=.ok (.int .i64 (n:Int)) w:=fun w ts ty=>by rw[Kh,Int.min_eq_left AD]
 have J12:∀(w:World) (ts:Array TypeId) (ty:TypeId),(Builtin.min_ ts ty #[.int .i64 (i:Int),.int .i64 (m:Int)]).run prog w=.ok (.int .i64 (i:Int)) w:=fun w ts ty=>by rw[Kh,Int.min_eq_left AD]
 go_enter func179,ntmps179;go_wp2_with fail;refine wp_loop_rounds 2 ?_;rw[rounds_succ];go_wp2_with fail;refine (HL _ (AA.refl w)).mono ?_;rintro e w1 ⟨rfl,AJ⟩;have AG:=AJ;have AH:=AB AJ Ag;obtain ⟨B7,Eg,J5⟩:=GH AH;(try clear Bx);go_wp2_with fail;refine (HQ _ AG).mono ?_;rintro e w2 ⟨rfl,q⟩;obtain ⟨AU,hd⟩:=HM _ _ AG q;have HD:=AC hd;have SB:=AC q;have Ej:=AC AG;obtain ⟨BS,Dj,GV⟩:=GH AU;clear q hd B7 Eg J5 AH c1;(try clear Bx Ag);go_wp2_with fail;rw[rounds_succ];go_wp2_with fail;refine HD.out.mono ?_;rintro e w3 ⟨m2,rfl,ho⟩;obtain ⟨hz,Ah⟩:=HZ _ _ _ _ Ej SB ho;have HE:=AC hz;obtain ⟨CB,Fu⟩:=DX Ah;clear hz ho BS Dj GV AU;go_wp2_with fail
 go_end0
 exact ⟨rfl,HE.out⟩
theorem dK(hg k:Nat)(cs:Array Value)(b cap g:Nat)(t:Ht)(c:Cw)(w:World)(hh:w.heap[hg]?=some (.cells cs 116))(hk:cs[k]?=some (.slice (some ⟨b,0,none⟩) 1 cap))(h:BU B w (.slice (some ⟨b,0,none⟩) 1 cap) c t.hs)(hs:c.sq=some (g,t)):
 Calls prog 179 #[.pointer (some ⟨hg,k,none⟩),.int .i64 (t.hs.length:Int),.int .i64 0] w fun e w'=>e=.returned (.tuple #[])/\Ba B w hg k cs c t.hs w':=by
 obtain ⟨b',DZ,cur,e,e2,e3,e4,e5,e6,e7,e8⟩:=h.KW hs;cases e;obtain ⟨hq,-⟩:=h.EL hs;have bC:Hs B w b g t:=⟨by rw[AE e4];exact e5,As e4,hq⟩;have HL:=AC (fun (w':World) (a:AA w w')=>CX (.pointer (some ⟨g,0,none⟩)) t w' (hq.q.Di.later a) hq.fit);have HD:=AC (fun (w':World) (a:AA w w')=>ST b cap g t cur w' (bC.later a) (AB a e4) e6 e8);have HZ:Hid (∀(w2 w3:World) (m:Nat),AA w w2->((m=1/\AA w2 w3)\/(m=0/\t.hs=[]/\∃w1,AA w2 w1/\w3=w1.setCell ⟨b,0,none⟩ (.pointer none)))->Ba B w hg k cs c t.hs (w3.setCell ⟨hg,k,none⟩ (.slice (some ⟨b,0,none⟩) m cap))/\w3.heap[hg]?=some (.cells cs 116)):=AC (fun w2 w3 m a ho=>by
  refine ⟨Ba.outs h hs hh a (KB.same (hq.later a) (AA.refl w2)) ho,?_⟩;rcases ho with ⟨-,a3⟩|⟨-,-,w4,a4,rfl⟩
  ·exact AB (a.trans a3) hh
  ·exact Bh (fun e=>by rw[e,e4]at hh;cases hh) (AB (a.trans a4) hh))
 have c1:=bC.cell;have Ag:=hh;have Bx:=AE hh;clear h hs hh hq bC e2 e3 e4 e5 e6 e7 e8;generalize t.hs=l2 at *;generalize l2.length=m at *;have J12:∀(w:World) (ts:Array TypeId) (ty:TypeId),(Builtin.min_ ts ty #[.int .i64 (m:Int),.int .i64 (m:Int)]).run prog w=.ok (.int .i64 (m:Int)) w:=fun w ts ty=>by rw[Kh,Int.min_eq_left AD]
 go_enter func179,ntmps179;go_wp2_with fail;refine wp_loop_rounds 2 ?_;rw[rounds_succ];go_wp2_with fail;refine (HL _ (AA.refl w)).mono ?_;rintro e w1 ⟨rfl,AJ⟩;have AG:=AJ;have AH:=AB AJ Ag;obtain ⟨B7,Eg,J5⟩:=GH AH;(try clear Bx);go_wp2_with fail;rw[rounds_succ];go_wp2_with fail;refine (HD _ AG).mono ?_;rintro e w3 ⟨m2,rfl,ho⟩;obtain ⟨hz,Ah⟩:=HZ _ _ _ AG ho;have HE:=AC hz;obtain ⟨CB,Fu⟩:=DX Ah;clear hz ho B7 Eg J5 AH;(try clear Bx Ag);go_wp2_with fail
 go_end0
 exact ⟨rfl,HE.out⟩
theorem cE(hg k:Nat)(cs:Array Value)(v:Value)(l:Qs)(c:Cw)(i n:Nat)(w:World)(hh:w.heap[hg]?=some (.cells cs 116))(hk:cs[k]?=some v)(h:BU B w v c l)(hn:i+n<=l.length):
 Calls prog 179 #[.pointer (some ⟨hg,k,none⟩),.int .i64 (i:Int),.int .i64 (n:Int)] w fun e w'=>e=.returned (.tuple #[])/\Ba B w hg k cs c (l.take i++l.drop (i+n)) w':=by
 rcases h.cases with ⟨_,rfl,A,cap,rfl⟩|⟨b,cap,g,t,hs,rfl,k1,rfl⟩
 ·rw[take_nil,drop_nil];exact XO hg k cs A cap c i n w hh hk h
 ·by_cases hi:i<t.hs.length
  ·exact jM hg k cs b cap g t c i n w hh hk h hs hi hn
  ·obtain rfl:i=t.hs.length:=AD
   obtain rfl:n=0:=AD
   rw[Nat.add_zero,List.take_append_drop];exact dK hg k cs b cap g t c w hh hk h hs
end
section
variable {B:Nat}
theorem Ba.from{w w1 w':World}{hg k:Nat}{cs:Array Value}{c:Cw}{l:Qs}(a:AA w w1)(h:Ba B w1 hg k cs c l w'):Ba B w hg k cs c l w':=by
 obtain ⟨v',c',h1,h2,h3,h4,h5⟩:=h;exact ⟨v',c',h1,h2,fun b hb=>(h3 b hb).imp id (fun q=>le_trans a.below.size q),fun b hb=>(h4 b hb).imp id (fun q=>le_trans a.below.size q),(AZ.of a).trans h5⟩
theorem mO:(prog.info? 166).map (fun i=>(i.zero,i.size,i.bytes))=some (some (.pointer none),1,8):=AY
theorem wj{w:World}{v:Value}{g:Nat}(ho:w.ownsRow B 166 1 v 0 [])(hB:B<=w.heap.size):
 ∃b cap w3,(Builtin.append_ #[112,112] 112 #[v,.slice (some ⟨w.heap.size,0,none⟩) 1 1]).run prog (w.alloc (.cells #[Mg g] 166))=.ok (.slice (some ⟨b,0,none⟩) 1 cap) w3/\w3.ownsRow B 166 1 (.slice (some ⟨b,0,none⟩) 1 cap) 1 [Mg g]/\AZ (fun x=>v.ownBlock=some x) w w3/\(v.ownBlock=some b\/w.heap.size<=b):=by
 obtain ⟨i0,Gv,JM,Ie,JN⟩:=info_parts mO;have a1:AA w (w.alloc (.cells #[Mg g] 166)):=(AA.refl w).alloc _;have hz:(w.alloc (.cells #[Mg g] 166)).heap[w.heap.size]?=some (.cells #[Mg g] 166):=Ae rfl;have XI:(w.alloc (.cells #[Mg g] 166)).ownsRow B 166 1 v 0 []:=GG a1 ho;obtain ⟨b,cap,w',k1,k2,k3,k4,k5⟩:=run_append_lies (P:=prog) (w:=w.alloc (.cells #[Mg g] 166)) 112 112 B 166 i0 (.pointer none) 1 8 underlying112 Gv JM Ie JN rfl (by decide) v 0 [] XI ⟨w.heap.size,0,none⟩ 1 1 [Mg g] rfl (fun j u hj=>by
  cases j with
  |zero=>
   cases hj;rw[Db];exact (AE hz 0).trans rfl
  |succ j=>simp at hj) (by intro u hu;simp at hu;subst hu;rfl) (by decide) (by unfold maxLen;omega) AD (le_trans hB a1.below.size) _ rfl
 refine ⟨b,cap,w',k1,k2,(AZ.of a1).trans (AZ.grown k3 (fun x e=>e)),?_⟩;rcases k4 with k4|k4
 ·exact .inl k4
 ·rw[World.size_alloc]at k4;exact .inr AD
theorem Ba.added{w w2 w3:World}{hg k g b cap:Nat}{cs:Array Value}{v:Value}{c:Cw}{t:Ht}(h:BU B w v c [])(hB:B<=w.heap.size)(hs:c.sq=none)(hh:w.heap[hg]?=some (.cells cs 116))(a:AA w w2)(hq:G9 w.heap.size w2 g t)(ho:w3.ownsRow B 166 1 (.slice (some ⟨b,0,none⟩) 1 cap) 1 [Mg g])(st:AZ (fun x=>v.ownBlock=some x) w2 w3)(hb:v.ownBlock=some b\/w2.heap.size<=b):Ba B w hg k cs c t.hs (w3.setCell ⟨hg,k,none⟩ (.slice (some ⟨b,0,none⟩) 1 cap))/\w3.heap[hg]?=some (.cells cs 116):=by
 have h2:=h.later a;have hnv:v.ownBlock≠some hg:=fun e=>by
  rw[h.1]at e;obtain ⟨_,La,e2⟩:=h.rowAt e;rw[hh]at e2;cases e2
 have h3:w3.heap[hg]?=some (.cells cs 116):=st.own (AB a hh) hnv;have ja:AZ (fun x=>x=hg) w3 (w3.setCell ⟨hg,k,none⟩ (.slice (some ⟨b,0,none⟩) 1 cap)):=(AZ.refl _ _).setCell (S:=fun x=>x=hg) rfl _;have q3:G9 w.heap.size w3 g t:=hq.stays st (fun x hx e=>by
  rw[h.1]at e;obtain ⟨_,La,e2⟩:=h2.rowAt e;rcases hx.kinds hq with ⟨_,rv,e3⟩|⟨_,cs,e3⟩|⟨_,cs,e3⟩
  ·rw[e2]at e3;cases e3
  ·rw[e2]at e3;cases e3
  ·rw[e2]at e3;cases e3)
 have c3:BU B w3 (.slice (some ⟨b,0,none⟩) 1 cap) ⟨some b,some (g,t)⟩ t.hs:=⟨rfl,.inr ⟨g,t,rfl,rfl,q3.mono hB,ho⟩⟩;have xb:c.row=some b\/w.heap.size<=b:=by
  rw[<-h.1];exact hb.imp id (fun q=>le_trans a.below.size q)
 refine ⟨⟨_,⟨some b,some (g,t)⟩,BI h3 rfl,c3.stays ja (fun x hx e=>EG c3 h3 (e ▸ hx)),fun x hx=>?_,fun x hx=>?_,((AZ.of a).more (T:=fun x=>v.ownBlock=some x) (S:=fun x=>x=hg\/LU c x) st (fun x hx=>.inl (.inr (.inl (by rw[<-h.1];exact hx))))).more ja (fun x hx=>.inl (.inl hx))⟩,h3⟩
 ·unfold Cw.bl at hx ⊢;simp only[Option.toList_some,List.mem_append,mem_cons,List.not_mem_nil,or_false]at hx;rcases hx with rfl|rfl|hx
  ·rcases xb with q|q
   ·exact .inl (by rw[q];simp)
   ·exact .inr q
  ·exact .inr hq.base
  ·exact .inr (hq.Yk x hx)
 ·rcases hx with hx|⟨g',t',e,rfl⟩
  ·cases hx;exact xb.imp .inl id
  ·cases e;exact .inr hq.base
theorem YD(hg k:Nat)(cs:Array Value)(v u:Value)(c:Cw)(m:Qs)(w:World)(hh:w.heap[hg]?=some (.cells cs 116))(hk:cs[k]?=some v)(h:BU B w v c [])(hB:B<=w.heap.size)(hs:c.sq=none)(hu:QR w u m)(hm:m.length<=45000)(hb:m.any CF=false):
 Calls prog 227 #[.pointer (some ⟨hg,k,none⟩),u,.int .i64 16777216] w fun e w'=>e=.returned (.tuple #[])/\Ba B w hg k cs c m w':=by
 have HN:=AC (fun (w':World) (a:AA w w')=>Rq u m w' (hu.later a) hm hb);have HP:Hid (∀(w2:World) (g:Nat) (t:Ht),AA w w2->G9 w.heap.size w2 g t->∃b cap w3,(Builtin.append_ #[112,112] 112 #[v,.slice (some ⟨w2.heap.size,0,none⟩) 1 1]).run prog (w2.alloc (.cells #[.pointer (some ⟨g,0,none⟩)] 166))=.ok (.slice (some ⟨b,0,none⟩) 1 cap) w3/\Ba B w hg k cs c t.hs (w3.setCell ⟨hg,k,none⟩ (.slice (some ⟨b,0,none⟩) 1 cap))/\w3.heap[hg]?=some (.cells cs 116)):=AC (fun w2 g t a q=>by
  have ho:w2.ownsRow B 166 1 v 0 []:=by
   rcases (h.later a).2 with ⟨_,_,h3⟩|⟨g',t',h1,_⟩
   ·exact h3
   ·rw[hs]at h1;cases h1
  obtain ⟨b,cap,w3,k1,k2,k3,k4⟩:=wj (g:=g) ho (le_trans hB a.below.size);obtain ⟨p1,p2⟩:=Ba.added (k:=k) h hB hs hh a q k2 k3 k4;exact ⟨b,cap,w3,k1,p1,p2⟩)
 obtain ⟨-,A,n0,rfl⟩:=h.Rj hs;obtain ⟨A2,BP,rfl,-⟩:=hu.form;have Ag:=hh;obtain ⟨Bx,Wj,Wk⟩:=GH hh;clear h hs hh hu hm hb hB;go_enter func227,ntmps227;go_wp2_with fail;refine (HN _ (AA.refl w)).mono ?_;rintro e w1 ⟨g,t,rfl,AJ,hq,rfl⟩;obtain ⟨b,cap,w3,k1,p1,Ah⟩:=HP w1 g t AJ hq;have K1:=AC k1;have HZ:=AC p1;have AH:=AB AJ Ag;have B7:=AE AH;obtain ⟨CB,Fu⟩:=DX Ah;clear k1 p1 hq Bx Wj Wk;go_wp2_with (at_builtin;refine Lib.wpList_append_run _ rfl _ _ _ _ rfl _ _ rfl rfl _ _ K1.out ?_)
 exact bodyPost_ret (v:=.tuple #[]) (by simp[results,results227,go_sem]) rfl ⟨rfl,HZ.out⟩
theorem fK(hg k:Nat)(cs:Array Value)(b cap g:Nat)(t:Ht)(u:Value)(c:Cw)(m:Qs)(w:World)(hh:w.heap[hg]?=some (.cells cs 116))(hk:cs[k]?=some (.slice (some ⟨b,0,none⟩) 1 cap))(h:BU B w (.slice (some ⟨b,0,none⟩) 1 cap) c t.hs)(hs:c.sq=some (g,t))(hu:QR w u m)(hm:t.hs.length+m.length<=45000)(hb:m.any CF=false):
 Calls prog 227 #[.pointer (some ⟨hg,k,none⟩),u,.int .i64 16777216] w fun e w'=>e=.returned (.tuple #[])/\Ba B w hg k cs c (t.hs++m) w':=by
 obtain ⟨b',DZ,cur,e,e2,e3,e4,e5,e6,e7,e8⟩:=h.KW hs;cases e;obtain ⟨hq,-⟩:=h.EL hs;have HL:=AC (fun (w':World) (a:AA w w')=>CX (.pointer (some ⟨g,0,none⟩)) t w' (hq.q.Di.later a) hq.fit);have HI:=AC (fun (w':World) (a:AA w w')=>Wx g u t t.hs.length m w' (hq.later a) (Nat.le_refl _) (hu.later a) hm hb);have HE:Hid (∀(w1 w2:World),AA w w1->KB B w1 g t (t.hs.take t.hs.length++m++t.hs.drop t.hs.length) w2->Ba B w hg k cs c (t.hs++m) w2):=AC (fun w1 w2 a q=>by
  rw[List.take_length,List.drop_length,append_nil]at q;exact Ba.own h hs hh hk a q (AA.refl _))
 obtain ⟨A2,BP,rfl,-⟩:=hu.form;have Ag:=hh;have Bx:=AE hh;have MA:=e4;have To:=AE e4;unfold Mg at e5;clear h hs hh hu hb e2 e3 e4 e6 e7 e8 hq;generalize t.hs.take t.hs.length++m++t.hs.drop t.hs.length=l2 at *;generalize t.hs++m=l3 at *;generalize t.hs.length=n at *;generalize m.length=n2 at *;go_enter func227,ntmps227;go_wp2_with fail;refine (HL _ (AA.refl w)).mono ?_;rintro e w1 ⟨rfl,AJ⟩;have AG:=AJ;have AH:=AB AJ Ag;have Aq:=AB AJ MA;(try clear Bx);(try clear To);go_wp2_with fail;apply AP (16) [⟨14,61,.int .i64 (n:Int),false,fun v _=>v=.int .i64 (n:Int)⟩] [] rfl AY AY AY Ar AY
 case hstab=>
  intro c hc;rcases Cv hc with rfl
  ·intro v x y BE hv;exact hv
 case hfix=>
  intro c hc;rcases Cv hc with rfl
  ·exact .inr fun u x h=>h
 case hlex=>
  intro U hU;have q0:=AE (AB hU AH);have q1:=AE (AB hU Aq);refine Hj ?_
  repeat (go_big_quiet_step (fail))
  exact wpQuiet_nil rfl
 case hstep=>
  intro j hj o ho;have CQ:j=0:=by simp at hj;omega
  rcases CQ with rfl
  ·cases ho;refine ⟨rfl,fun g x hx hp=>?_⟩;clear hp;refine Bp ?_;refine AO ?_ (At (HL x (AG.trans hx)));simp[go_sem,execOp]
 case htail=>
  intro g u Aw Az;have AL:AA w1 (later u):=⟨u,rfl⟩;generalize later u=w2 at *;clear u;clear Aw Az;refine DH ?_;have AR:=AG.trans AL;go_wp2_with fail;refine (HI _ AR).mono ?_;rintro e w3 ⟨rfl,q⟩;have HZ:=AC (HE _ _ AR q);clear q;go_wp2_with fail
  go_end0
  exact ⟨rfl,HZ.out⟩
theorem SD(hg k:Nat)(cs:Array Value)(v u:Value)(l l2:Qs)(c:Cw)(w:World)(hh:w.heap[hg]?=some (.cells cs 116))(hk:cs[k]?=some v)(h:BU B w v c l)(hu:∃A n cap,u=.slice A n cap)
 (HA:∀w',AA w w'->Calls prog 227 #[.pointer (some ⟨hg,k,none⟩),u,.int .i64 16777216] w' fun e Bg=>e=.returned (.tuple #[])/\Ba B w' hg k cs c l2 Bg):
 Calls prog 181 #[.pointer (some ⟨hg,k,none⟩),.int .i64 (l.length:Int),u,.int .i64 16777216] w fun e w'=>e=.returned (.tuple #[])/\Ba B w hg k cs c l2 w':=by
 have HL:=AC (fun (w':World) (a:AA w w')=>MB v c l w' (h.later a));have HA:=AC HA;obtain ⟨A,n0,Td,rfl⟩:=h.OL;obtain ⟨A2,n2,BP,rfl⟩:=hu;have Bx:=AE hh;clear h hh;generalize l.length=n at *;go_enter func181,ntmps181;go_wp2_with fail;refine (HL _ (AA.refl w)).mono ?_;rintro e w1 ⟨rfl,AJ⟩;have AG:=AJ;(try clear Bx);go_wp2_with fail;refine (HA _ AG).mono ?_;rintro e w2 ⟨rfl,q⟩;have HZ:=AC (Ba.from AG q);clear q;go_wp2_with fail;exact bodyPost_ret (v:=.tuple #[]) (by simp[results,results181,go_sem]) rfl ⟨rfl,HZ.out⟩
theorem iV(hg k:Nat)(cs:Array Value)(b cap g i:Nat)(t:Ht)(u:Value)(c:Cw)(m:Qs)(w:World)(hh:w.heap[hg]?=some (.cells cs 116))(hk:cs[k]?=some (.slice (some ⟨b,0,none⟩) 1 cap))(h:BU B w (.slice (some ⟨b,0,none⟩) 1 cap) c t.hs)(hs:c.sq=some (g,t))(hi:i<t.hs.length)(hu:QR w u m)(hm:t.hs.length+m.length<=45000)(hb:m.any CF=false):
 Calls prog 181 #[.pointer (some ⟨hg,k,none⟩),.int .i64 (i:Int),u,.int .i64 16777216] w fun e w'=>e=.returned (.tuple #[])/\Ba B w hg k cs c (t.hs.take i++m++t.hs.drop i) w':=by
 obtain ⟨hq,-⟩:=h.EL hs;have HS:=AC (fun (w':World) (a:AA w w')=>MB _ c t.hs w' (h.later a));have HW:=AC (fun (w':World) (a:AA w w')=>Fi _ c t.hs (i:Int) w' (h.later a));have hwi:re c (i:Int)=.tuple #[.pointer (some ⟨g,0,none⟩),.int .i64 (i:Int)]:=by
  unfold re;rw[hs];simp only[show (i:Int)<(t.hs.length:Int) by omega,if_true]
 rw[hwi]at HW;have HL:=AC (fun (w':World) (a:AA w w')=>CX (.pointer (some ⟨g,0,none⟩)) t w' (hq.q.Di.later a) hq.fit);have HI:=AC (fun (w':World) (a:AA w w')=>Wx g u t i m w' (hq.later a) AD (hu.later a) hm hb);have HE:Hid (∀(w1 w2:World),AA w w1->KB B w1 g t (t.hs.take i++m++t.hs.drop i) w2->Ba B w hg k cs c (t.hs.take i++m++t.hs.drop i) w2):=AC (fun w1 w2 a q=>Ba.own h hs hh hk a q (AA.refl _));obtain ⟨A2,BP,rfl,-⟩:=hu.form;have Ag:=hh;have Bx:=AE hh;have d1:((i:Int) == (t.hs.length:Int))=false:=by simp;omega
 clear h hs hh hu hb hq hwi;generalize t.hs.take i++m++t.hs.drop i=l2 at *;generalize t.hs.length=n at *;generalize m.length=n2 at *;go_enter func181,ntmps181;go_wp2_with fail;refine (HS _ (AA.refl w)).mono ?_;rintro e w1 ⟨rfl,AJ⟩;have AG:=AJ;have AH:=AB AJ Ag;have B7:=AE AH;(try clear Bx);go_wp2_with fail;refine (HW _ AG).mono ?_;rintro e w2 ⟨rfl,AL⟩;have AR:=AG.trans AL;(try clear B7);go_wp2_with fail;refine (HL _ AR).mono ?_;rintro e w3 ⟨rfl,AX⟩;have An:=AR.trans AX;go_wp2_with fail;refine (HI _ An).mono ?_;rintro e w4 ⟨rfl,q⟩;have HZ:=AC (HE _ _ An q);clear q;go_wp2_with fail
 go_end0
 exact ⟨rfl,HZ.out⟩
theorem bU(hg k:Nat)(cs:Array Value)(v u:Value)(l m:Qs)(c:Cw)(i:Nat)(w:World)(hh:w.heap[hg]?=some (.cells cs 116))(hk:cs[k]?=some v)(h:BU B w v c l)(hB:B<=w.heap.size)(hi:i<=l.length)(hu:QR w u m)(hm:l.length+m.length<=45000)(hb:m.any CF=false):
 Calls prog 181 #[.pointer (some ⟨hg,k,none⟩),.int .i64 (i:Int),u,.int .i64 16777216] w fun e w'=>e=.returned (.tuple #[])/\Ba B w hg k cs c (l.take i++m++l.drop i) w':=by
 have px:∃A n cap,u=.slice A n cap:=by
  obtain ⟨A,cap,e,_⟩:=hu.form;exact ⟨_,_,_,e⟩
 rcases h.cases with ⟨hs,rfl,A,cap,rfl⟩|⟨b,cap,g,t,hs,rfl,k1,rfl⟩
 ·obtain rfl:i=0:=by simpa using hi
  simp only[take_nil,drop_nil,append_nil,List.nil_append];exact SD hg k cs _ u [] m c w hh hk h px (fun w' a=>YD hg k cs _ u c m w' (AB a hh) hk (h.later a) (le_trans hB a.below.size) hs (hu.later a) (by simpa using hm) hb)
 ·by_cases fD:i<t.hs.length
  ·exact iV hg k cs b cap g i t u c m w hh hk h hs fD hu hm hb
  ·obtain rfl:i=t.hs.length:=AD
   rw[List.take_length,List.drop_length,append_nil];exact SD hg k cs _ u t.hs (t.hs++m) c w hh hk h px (fun w' a=>fK hg k cs b cap g t u c m w' (AB a hh) hk (h.later a) hs (hu.later a) hm hb)
end
section
variable {B:Nat}
theorem bI(n:Nat)(hn:n<4294967296)(w:World):Calls prog 230 #[.int .u64 1,.int .u64 (n:Int)] w fun e w'=>e=.returned (.tuple #[.int .u64 0,.int .u64 (n:Int)])/\AA w w':=by
 have h1:bits .and .u64 (n:Int) 4294967295=(n:Int):=by
  have:=bits_mask .u64 63 (by decide) (fun x h0 h1=>by rw[IntKind.wrap_u64];omega) 32 (by decide) (n:Int) AD AD
  have e:(2:Int) ^ 32-1=4294967295:=by decide
  have e2:(2:Int) ^ 32=4294967296:=by decide
  rw[e,e2]at this;rw[this];omega
 have h2:bits .and .u64 1 4294967295=1:=by decide
 have h3:bits .and .u64 0 4294967295=0:=by decide
 have h4:(n:Int)/4294967296=0:=AD;go_enter func230,ntmps230;go_wp2_with fail;refine bodyPost_ret (v:=.tuple #[.int .u64 0,.int .u64 (n:Int)]) (by simp[results,results230,go_sem, *]) rfl ⟨rfl,?_⟩;exact BQ
theorem U5(n:Nat)(hn:n<4294967296)(w:World):Calls prog 182 #[.int .u64 1,.int .u64 (n:Int)] w fun e w'=>e=.returned (.tuple #[.int .u64 0,.int .u64 (n:Int)])/\AA w w':=by
 have HM:=AC (fun (w':World)=>bI n hn w');go_enter func182,ntmps182;go_wp2_with fail;refine (HM _).mono ?_;rintro e w1 ⟨rfl,AJ⟩;have AG:=AJ;go_wp2_with fail;refine bodyPost_ret (v:=.tuple #[.int .u64 0,.int .u64 (n:Int)]) (by simp[results,results182,go_sem, *]) rfl ⟨rfl,?_⟩;exact AG
theorem RY(w:World)(dT sT ty elem:TypeId)(g o xu oc:Nat)(a:Addr)(sLen sCap n:Nat)(cur:Array Value)(t:TypeId)(cs:List Value)
 (hu:prog.underlying dT=some (.slice elem)) (hs:(prog.info? elem).map (·.size)=some 2)
 (hg:w.heap[g]?=some (.cells cur t)) (hn:Nat.min sLen xu=n) (hc:cs.length=n*2)
 (NL:∀j v,cs[j]?=some v->w.cell? (a.add j)=some v) (r6:o+cs.length<=cur.size) (h1:∀v∈cs,v.oneCell'=true):
 (Builtin.copy_ #[dT,sT] ty #[.slice (some ⟨g,o,none⟩) xu oc,.slice (some a) sLen sCap]).run prog w=
  .ok (.int .i64 (n:Int)) (w.setRow g (cur.toList.take o++cs++cur.toList.drop (o+cs.length)).toArray):=by
 have hl:=run_loadCells_list (P:=prog) w a cs NL;have Aw:=run_storeCells_at prog g o t cs 0 cur w hg (by simpa using r6) h1;rw[hc]at hl
 cases hq:prog.info? elem with
 |none=>simp[hq]at hs
 |some i=>
  have hi:i.size=2:=by simpa[hq] using hs
  simp[Builtin.copy_,run_underlying hu,Builtin.lenOf,Builtin.firstCells,sizeOf,typeInfo,hq,hi,hn,hl,Aw,goInt]
theorem S7:(prog.info? 61).map (fun i=>(i.zero,i.size,i.bytes))=some (some (.agg #[.int .i64 0,.int .i64 0]),2,16):=AY
theorem eo:(prog.info? 61).map (·.size)=some 2:=AY
def He(G n k:Nat)(x:Int × Int)(w:World):Prop:=∃cur,w.heap[G]?=some (.cells cur 61)/\cur.size=n*2/\k<=n/\cur.toList.take (k*2)=CL (replicate k x)
theorem Rp(x:Int × Int)(m k:Nat)(h:m<=k):(CL (replicate k x)).take (m*2)=CL (replicate m x):=by
 obtain ⟨d,rfl⟩:=Nat.exists_eq_add_of_le h;rw[<-List.replicate_append_replicate,Ja,List.take_append_of_le_length (by rw[Bb,length_replicate];omega),List.take_of_length_le (by rw[Bb,length_replicate];omega)]
theorem aq{w:World}{G n k m:Nat}{x:Int × Int}{a:Addr}{sLen sCap:Nat}(h:He G n k x w)(hm:Nat.min sLen (n-k)=m)(NL:∀j u,(CL (replicate m x))[j]?=some u->w.cell? (a.add j)=some u)(oc:Nat):
 ∃w2,(∀ty,(Builtin.copy_ #[84,84] ty #[.slice (some ⟨G,k*2,none⟩) (n-k) oc,.slice (some a) sLen sCap]).run prog w=.ok (.int .i64 (m:Int)) w2)/\He G n (k+m) x w2/\AZ (fun b=>b=G) w w2:=by
 obtain ⟨cur,hg,hs,hk,ht⟩:=h;have vp:m<=n-k:=by rw[<-hm];exact Nat.min_le_right _ _
 have hl:(CL (replicate m x)).length=m*2:=by rw[Bb,length_replicate]
 have OW:cur.toList.length=n*2:=by simpa using hs
 refine ⟨_,fun ty=>RY w 84 84 ty 61 G (k*2) (n-k) oc a sLen sCap m cur 61 (CL (replicate m x)) underlying84 eo hg hm hl NL (by rw[hl];omega) (SV _),⟨_,setRow_heap w G cur _ 61 (0,0) hg,?_,AD,?_⟩,?_⟩
 ·simp only[List.size_toArray,length_append,List.length_take,List.length_drop,hl,OW];omega
 ·simp only[];rw[ht,<-List.replicate_append_replicate,Ja,List.take_append_of_le_length (by rw[length_append,Bb,Bb,length_replicate,length_replicate];omega),List.take_of_length_le (by rw[length_append,Bb,Bb,length_replicate,length_replicate];omega)]
 ·refine ⟨rfl,rfl,rfl,by simp[World.setRow],fun q hq Az=>?_⟩;unfold World.setRow;simp only[Array.getElem?_modify];rw[if_neg (fun e=>Az e.symm)]
theorem He.done{w:World}{G n C:Nat}{x:Int × Int}(h:He G n n x w)(hC:C<=G)(hn:n<=90000):OQ 61 w C (.slice (some ⟨G,0,none⟩) n n) (replicate n x):=by
 obtain ⟨cur,hg,hs,_,ht⟩:=h;show w.ownsRow C 61 2 _ (replicate n x).length _
 rw[length_replicate];exact ⟨by rw[Bb,length_replicate],.inr ⟨G,n,cur,rfl,hC,hg,Nat.le_refl _,by unfold maxLen;omega,hs,ht⟩⟩
theorem He.src{w:World}{G n k m:Nat}{x:Int × Int}(h:He G n k x w)(hm:m<=k):∀j u,(CL (replicate m x))[j]?=some u->w.cell? ((⟨G,0,none⟩:Addr).add j)=some u:=by
 obtain ⟨cur,hg,hs,hk,ht⟩:=h;intro j u hu;rw[Nj,zero_add,AE hg];have hj:j<m*2:=by
  rcases Nat.lt_or_ge j (m*2) with q|q
  ·exact q
  ·rw[List.getElem?_eq_none (by rw[Bb,length_replicate];exact q)]at hu;cases hu
 rw[<-Rp x m k hm,<-ht,List.take_take,List.getElem?_take_of_lt AD,Array.getElem?_toList]at hu;exact hu
theorem He.drew{w:World}{G n k:Nat}{x:Int × Int}(h:He G n k x w):He G n k x w.drew:=h
theorem gR(n:Nat)(hn:n<=90000)(x:Int × Int)(w:World):(Instr.makeSlice 84 (.int .i64 (n:Int)) (.int .i64 (n:Int))).run prog w=.ok (.slice (some ⟨w.heap.size,0,none⟩) n n) (w.alloc (.cells (madeCells #[.int .i64 0,.int .i64 0] (n*2)) 61))/\He w.heap.size n 0 x (w.alloc (.cells (madeCells #[.int .i64 0,.int .i64 0] (n*2)) 61)):=by
 obtain ⟨i0,Gv,JM,Ie,JN⟩:=info_parts S7;have h:=run_make (P:=prog) w 84 61 i0 (.agg #[.int .i64 0,.int .i64 0]) underlying84 Gv JM .i64 .i64 (n:Int) (n:Int) AD (Int.le_refl _) (by rw[JN];omega) AD;rw[Ie]at h;simp only[Int.toNat_natCast]at h;exact ⟨h,_,Ae rfl,by rw[size_madeCells],Nat.zero_le _,by simp[CL]⟩
theorem db(A:Option Addr)(n cap i:Nat)(h2:i<=cap)(w:World):(Instr.sliceAt 84 (.slice A n cap) none (some (.int .i64 (i:Int))) none).run prog w=.ok (.slice A i cap) w:=by
 have eA:(if cap=0 then A else A.map (fun x=>x.add 0))=A:=by
  split
  ·rfl
  ·cases A with
   |none=>rfl
   |some a=>simp[Addr.add]
 rw[run_sliceAt_slice w _ _ _ _ _ B8.L_,run_slice_h w _ A n cap B8.L_ .i64 (i:Int) AD AD];rw[B8.size];simp only[Result.andThen,sliced,Int.toNat_natCast,Nat.sub_zero,Nat.zero_mul];rw[eA]
theorem dE(g o n cap i:Nat)(h1:i<=n)(h2:n<=cap)(w:World):(Instr.sliceAt 84 (.slice (some ⟨g,o,none⟩) n cap) (some (.int .i64 (i:Int))) none none).run prog w=.ok (.slice (some ⟨g,if cap=i then o else o+i*2,none⟩) (n-i) (cap-i)) w:=by
 rw[run_sliceAt_slice w _ _ _ _ _ B8.L_,run_slice_l w _ (some ⟨g,o,none⟩) n cap B8.L_ .i64 (i:Int) AD AD];rw[B8.size];simp only[Result.andThen,sliced,Int.toNat_natCast];split
 ·rfl
 ·rw[Option.map_some,Db]
theorem bT(A0:Option Addr)(Td:Nat)(x:Int × Int)(n:Nat)(w:World)(hu:QR w (.slice A0 1 Td) [x])(hn:n<=45000):Calls prog 134 #[.slice A0 1 Td,.int .i64 (n:Int)] w fun e w'=>∃z,e=.returned z/\AA w w'/\OQ 61 w' w.heap.size z (replicate n x):=by
 obtain ⟨A1,c1,e,_,hc⟩:=id hu;cases e;obtain ⟨b,off,rfl,hb,Eq⟩:=hc Ar;have HM:=AC (fun (w':World)=>U5 n AD w');have HMk:=AC (fun (w':World) (a:AA w w')=>gR n AD x w');have Q6:Hid (∀(w1:World) (G:Nat),AA w w1->He G n 0 x w1->∃w2,(∀ty,(Builtin.copy_ #[84,84] ty #[.slice (some ⟨G,0,none⟩) n n,.slice (some ⟨b,off,none⟩) 1 Td]).run prog w1=.ok (.int .i64 ((Nat.min 1 n:Nat):Int)) w2)/\He G n (Nat.min 1 n) x w2/\AZ (fun b=>b=G) w1 w2):=AC (fun w1 G a h=>by
  have hq:=QR.cells (l:=[x]) (fun j hj=>by
   obtain ⟨A9,c9,e9,_,hc9⟩:=hu.later a;cases e9;obtain ⟨b',Yj,e',_,hc'⟩:=hc9 Ar;cases e'
   exact hc' j hj)
  have:=aq (m:=Nat.min 1 n) (sLen:=1) (sCap:=Td) (a:=⟨b,off,none⟩) h (by rw[Nat.sub_zero]) (fun j u hj=>hq j u (by
   have e1:Nat.min 1 n<=1:=Nat.min_le_left _ _;have e2:CL (replicate 1 x)=CL [x]:=rfl;rw[<-e2];rw[<-Rp x _ 1 e1]at hj;rw[List.getElem?_take]at hj;split at hj
   ·exact hj
   ·cases hj)) n
  simpa using this)
 have Hw:Hid (∀(w1:World) (G k m:Nat),He G n k x w1->k<n->Nat.min k (n-k)=m->∃w2,(∀ty,(Builtin.copy_ #[84,84] ty #[.slice (some ⟨G,k*2,none⟩) (n-k) (n-k),.slice (some ⟨G,0,none⟩) k n]).run prog w1=.ok (.int .i64 (m:Int)) w2)/\He G n (k+m) x w2/\AZ (fun b=>b=G) w1 w2):=AC (fun w1 G k m h hk hm=>aq h hm (h.src (by rw[<-hm];exact Nat.min_le_left _ _)) (n-k));clear hu hc Eq;go_enter func134,ntmps134;go_wp2_with fail;refine (HM _).mono ?_;rintro e w1 ⟨rfl,AJ⟩;have AG:=AJ;obtain ⟨k1,k2⟩:=HMk w1 AG;obtain ⟨w2,PH⟩:=BZ (w1.alloc (.cells (madeCells #[.int .i64 0,.int .i64 0] (n*2)) 61));rw[PH]at k1 k2;obtain ⟨G,hG⟩:=BZ (w1.heap.size);have hGw:w.heap.size<=G:=by rw[<-hG];exact AG.below.size
 rw[hG]at k1 k2;have AR:AA w w2:=by rw[<-PH];exact AG.alloc _
 obtain ⟨w3,k3,k4,k5⟩:=Q6 w2 G AR k2;have An:AA w w3:=k5.any AR (fun q hq=>by rw[hq];exact hGw);obtain ⟨m0,vm⟩:=BZ (Nat.min 1 n);have ze:m0<=n/\(0<n->0<m0):=by
  rw[<-vm];exact ⟨Nat.min_le_right _ _,fun h=>Nat.lt_of_lt_of_le (Nat.lt_min.2 ⟨Nat.zero_lt_one,h⟩) (Nat.le_refl _)⟩
 rw[vm]at k3 k4;clear vm k2 k5 PH;have hmk:∀ty,(Builtin.copy_ #[84,84] ty #[.slice (some ⟨G,0,none⟩) n n,.slice (some ⟨b,off,none⟩) 1 Td]).run prog w2=.ok (.int .i64 (m0:Int)) w3:=k3;clear k3;have H4:=AC k4;clear k4;go_wp2_with fail;go_loopg [8] (n-m0) (fun kk i wr=>∃k:Nat,kk=n-k/\k<=n/\i=.int .i64 k/\(0<n->0<k)/\AA w wr/\He G n k x wr)
 case atStart=>exact ⟨m0,rfl,ze.1,rfl,ze.2,An,H4.out⟩
 case round=>
  obtain ⟨k,hkk,hk,rfl,QW,AW,ur⟩:=hrel;have ji:=AC ur;clear ur;by_cases BN:k<n
  ·obtain ⟨m,hm⟩:∃m,Nat.min k (n-k)=m:=⟨_,rfl⟩;have hmb:0<m/\m<=n-k:=by
    rw[<-hm];exact ⟨Nat.lt_min.2 ⟨QW AD,AD⟩,Nat.min_le_right _ _⟩
   obtain ⟨w4,k1,k2,k3⟩:=Hw wr.drew G k m ji.out.drew BN hm;have Bl:AA w w4:=k3.any AW.drew (fun q hq=>by rw[hq];exact hGw);have HZ:=AC (And.intro Bl k2);have HK:=AC k1;have s1:=dE G 0 n n k AD (Nat.le_refl _);rw[if_neg AD,zero_add]at s1;have s2:=db (some ⟨G,0,none⟩) n n k AD;clear k1 k2 k3 Bl hm QW;go_wp2_with fail;apply Fg 10 [(7,.int .i64 (m:Int))] (fun _=>True) (yp [fun w'=>w'=wr.drew,fun w'=>w'=w4]) AY AY AY trivial rfl
   case hlex=>
    intro U hU;simp only[actFrom,actOp,List.lookup,Nat.reduceBEq,Nat.reduceLeDiff,Nat.reduceAdd,if_false,if_true]
    repeat (go_big_quiet_step (fail))
    exact wpQuiet_nil rfl
   case hact=>
    intro jj WT o ho;obtain rfl:jj=0:=by simp at WT;omega
    cases ho;refine ⟨rfl,fun w' hC hS=>?_⟩;obtain rfl:w'=wr.drew:=hS
    refine bQ (w':=w4) ?_ ⟨trivial,rfl⟩;have k1:=HK.out;simp[go_sem,execOp,k1]
   case htail=>
    intro w' hC hS;obtain rfl:w'=w4:=hS
    simp only[List.drop_succ_cons,List.drop_zero,drop_nil];go_wp2_with fail;go_roundg (n-(k+m))
    case measure=>omega
    case rel=>exact ⟨k+m,rfl,AD,by go_num,fun _=>by omega,HZ.out.1,HZ.out.2⟩
  ·obtain rfl:k=n:=AD
   have HZ:=AC (ji.out.done (C:=w.heap.size) hGw AD);go_wp2_with fail;go_ret;exact ⟨_,rfl,AW,HZ.out⟩
end
theorem QR.lit{t:TypeId}{w:World}{g:Nat}{cs:Array Value}(l:Qs)(h:w.heap[g]?=some (.cells cs t))(e:cs.toList=CL l):QR w (.slice (some ⟨g,0,none⟩) l.length l.length) l:=by
 refine ⟨_,_,rfl,Nat.le_refl _,fun h0=>⟨g,0,rfl,As h,fun j hj=>?_⟩⟩;have q:∀k,cs[k]?=(CL l)[k]?:=fun k=>by rw[<-Array.getElem?_toList,e]
 rw[zero_add,AE h,AE h,q,q,JO,Jg,List.getElem?_eq_getElem hj];exact ⟨rfl,rfl⟩
theorem Uz:prog.underlying 61=some (.struct (prog.fieldsOf 61)):=AY
theorem Yp:prog.stoodInHeld 61=false:=AY
theorem ZQ:prog.eqGuardType prog.depth 61=false:=AY
theorem qp(a b c d:Int)(w:World):(Op.equalIn 10000 61 (.agg #[.int .i64 a,.int .i64 b]) (.agg #[.int .i64 c,.int .i64 d])).run prog w=.ok (a == c && b == d) w:=by
 rw[run_equalIn_agg w 9999 _ _ _ Uz Yp];by_cases h1:a=c
 ·by_cases h2:b=d
  ·simp[go_sem,h1,h2]
  ·simp[go_sem,h1,h2]
 ·simp[go_sem,h1]
theorem n_(a b:Int)(w:World):(binOp .eql 61 (.agg #[.int .i64 a,.int .i64 b]) (.agg #[.int .i64 a,.int .i64 b])).run prog w=.ok (.bool true) w:=by
 rw[run_eql_struct,qp];simp[Result.andThen]
end Go.Proofs.YtamhnffokoejjaaGreatDoor
