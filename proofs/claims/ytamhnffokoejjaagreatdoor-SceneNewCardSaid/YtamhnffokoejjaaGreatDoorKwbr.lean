import Derived.Test.YtamhnffokoejjaaGreatDoorKwbq
import Derived.Test.YtamhnffokoejjaaGreatDoorKwap
import Derived.Test.YtamhnffokoejjaaGreatDoorKwbk
set_option linter.all false
set_option maxHeartbeats 3200000
set_option maxRecDepth 100000
namespace Go.Proofs.YtamhnffokoejjaaGreatDoor
open List(mem_of_getElem? replicate length_replicate length_take length_append length_drop append_nil)
open Nat(le_refl sub_self add_zero)
open Int(toNat_natCast)
open Go.Proofs.Tryz
open Go.RowKit
section
variable{l:Aa}{cs:Array Value}{x:ES}{st:Int}{H:List Bool}{S b i:List Int}{B a d f g j n o s:Nat}{L:Qs}{m:Sc}{t:TypeId}{u v:Value}{w w':World}
def DC(d:Nat)(w w':World):Prop:=AZ (fun k=>k=d) w w'/\∃cs m,w.heap[d]?=some (.cells cs 44 m)
theorem DC.own{k:Nat}{m:Nat × Nat}(h:DC d w w')(hk:w.heap[k]?=some (.cells cs t m))(ht:t≠44):w'.heap[k]?=some (.cells cs t m):=
 h.1.own hk (fun e=>by
  obtain ⟨La,m',q⟩:=h.2;subst e;rw[hk]at q;cases q;exact ht rfl)
theorem DC.cell{b:Nat}{m:Nat × Nat}{x:Value}(h:DC d w w')(hk:w.heap[b]?=some (.cells cs t m))(ht:t≠44)(hx:w.cell? ⟨b,o,none⟩=some x):w'.cell? ⟨b,o,none⟩=some x:=by
 have h2:=h.own hk ht;have e:∀{v:World},v.heap[b]?=some (.cells cs t m)->v.cell? ⟨b,o,none⟩=cs[o]?:=fun q=>by simp[World.cell?,q]
 rw[e h2,<-e hk];exact hx
theorem DC.any{W:World}(hW:AA W w)(hd:W.heap.size<=d)(h:DC d w w'):AA W w':=AZ.any hW (fun k hk=>by have:k=d:=hk;omega) h.1
theorem Mc.dc(h:Mc w v l)(c:DC d w w'):Mc w' v l:=by
 obtain ⟨⟨A,cap,rfl,h2,h3⟩,h4⟩:=h;refine ⟨⟨A,cap,rfl,h2,fun h0=>?_⟩,fun b hb=>?_⟩
 ·obtain ⟨b,off,rfl,hb,hc⟩:=h3 h0;obtain ⟨cs,FS⟩:=h4 b rfl;exact ⟨b,off,rfl,Nat.lt_of_lt_of_le hb c.1.size,fun j hj=>⟨c.cell FS (by decide) (hc j hj).1,c.cell FS (by decide) (hc j hj).2⟩⟩
 ·obtain ⟨cs,FS⟩:=h4 b hb;exact ⟨cs,c.own FS (by decide)⟩
theorem QT.dc{l:Qs}(h:QT w v l)(c:DC d w w'):QT w' v l:=by
 obtain ⟨⟨A,cap,rfl,h2,h3⟩,h4⟩:=h;refine ⟨⟨A,cap,rfl,h2,fun h0=>?_⟩,fun b hb=>?_⟩
 ·obtain ⟨b,off,rfl,hb,hc⟩:=h3 h0;obtain ⟨cs,FS⟩:=h4 b rfl;exact ⟨b,off,rfl,Nat.lt_of_lt_of_le hb c.1.size,fun j hj=>⟨c.cell FS (by decide) (hc j hj).1,c.cell FS (by decide) (hc j hj).2⟩⟩
 ·obtain ⟨cs,FS⟩:=h4 b hb;exact ⟨cs,c.own FS (by decide)⟩
theorem RT.dc{k:IntKind}{l:List Int}(h:RT k t w v l)(c:DC d w w')(ht:t≠44):RT k t w' v l:=by
 obtain ⟨A,cap,h1,h2,h3⟩:=h;refine ⟨A,cap,h1,h2,fun h0=>?_⟩;obtain ⟨b,off,cs,m,e,hb,hc⟩:=h3 h0;exact ⟨b,off,cs,m,e,c.own hb ht,hc⟩
theorem CU.dc{d:Nat}{w w':World}(c:DC d w w'):∀{t:Tr} {v:Value},CU w t v->CU w' t v
 |.nil,_,h=>h
 |.node l p r,v,h=>by
  obtain ⟨k,lv,rv,bv,fv,q1,q2,q3,q4,q5⟩:=h;exact ⟨k,lv,rv,bv,fv,q1,c.own q2 (by decide),CU.dc c q3,CU.dc c q4,q5.1.dc c (by decide),q5.2.dc c (by decide)⟩
theorem Gb.dc{hg:Nat}{K:List Nat}(h:Gb B w hg K L H)(c:DC d w w'):Gb B w' hg K L H:=
 h.stays c.1 (fun b hb hs=>by
  obtain ⟨cs,m,e⟩:=c.2;obtain rfl:b=d:=hs
  obtain ⟨La,t',e',q'⟩:=HC.kind h hb;rw[e]at e';cases e'
  rcases q' with q'|q'|⟨_,q'|q'|q'⟩ <;> exact absurd q' (by decide))
theorem Dr.dc(h:Dr B w s x m b S L H)(c:DC d w w'):Dr B w' s x m b S L H:=by
 obtain ⟨h1,rv,h2,h3⟩:=h.tx;exact ⟨c.own h.CT (by decide),⟨c.own h1 (by decide),rv,c.own h2 (by decide),CU.dc c h3⟩,h.tok,h.tb,h.runs.dc c,h.ends.dc c (by decide),h.Hl.dc c,h.RF.dc c,h.bs,h.bg⟩
theorem KD.dc(h:KD B w s x m)(c:DC d w w'):KD B w' s x m:=⟨h.ok,h.p.dc c⟩
theorem J9.set{v v':DV}{m':Sc}(h:J9 w d v m){i:Nat}{u:Value}(hw:w'=w.setCell ⟨d,i,none⟩ u)(hc:(dC v m).setIfInBounds i u=dC v' m')(hb:RT .u8 5 w v'.vb m'.b)(hs:RT .i64 3 w v'.vs m'.S)(hf:QT w v'.vf m'.F):J9 w' d v' m'/\DC d w w':=by
 subst hw;have c:DC d w (w.setCell ⟨d,i,none⟩ u):=⟨(AZ.refl (fun k=>k=d) w).setCell (b:=d) rfl u,_,_,h.CT⟩;exact ⟨⟨BI h.CT hc,hb.dc c (by decide),hs.dc c (by decide),hf.dc c⟩,c⟩
theorem DC.from{w1:World}{v:DV}(a:AA w w1)(h:J9 w d v m)(c:DC d w1 w'):DC d w w':=⟨(AZ.of a).trans c.1,_,_,h.CT⟩
theorem DC.of{v:DV}(a:AA w w')(h:J9 w d v m):DC d w w':=⟨.of a,_,_,h.CT⟩
theorem DC.trans{a b c:World}(h:DC d a b)(k:DC d b c):DC d a c:=⟨h.1.trans k.1,h.2⟩
theorem YC{v:DV}(f t:Int)(w:World)(h:J9 w d v m)(hl:m.F.length<=60000):
 Calls prog 52 #[.pointer (some ⟨d,0,none⟩),.agg #[.int .i64 f,.int .i64 t]] w fun e w'=>e=.returned (.int .i64 (KL m f t))/\(∃v',J9 w' d v' (Ft m f t))/\DC d w w':=by
 obtain ⟨A1,c1,ag,-⟩:=h.b.form;have HAdd:=AC (fun (w':World) (a:AA w w')=>(by
  refine (kU v.vf m.F f t m.b.length w' (h.f.1.later a) hl).mono ?_;rintro e Bg ⟨u,rfl,b,q⟩;exact ⟨_,rfl,b,u,rfl,q⟩:Calls prog 97 #[v.vf,.agg #[.int .i64 f,.int .i64 t],.int .i64 ((m.b.length:Nat):Int)] w' fun e Bg=>∃v,e=.returned v/\AA w' Bg/\C4 (Ia (f,t) m.F m.b.length) (KL m f t) v Bg))
 have HS:=AC h;have Ag:=h.CT;simp only[dC]at Ag;rw[ag]at Ag;have ly:=AA.refl w;obtain ⟨c,hc⟩:=BZ (KL m f t);rw[hc]at HAdd ⊢;have qQ:c=0->Ft m f t={m with F:=Ia (f,t) m.F m.b.length}:=fun q=>by unfold Ft;rw[hc,if_pos q]
 have qF:c≠0->Ft m f t=m:=fun q=>by unfold Ft;rw[hc,if_neg q]
 have HM:=AC (And.intro qQ qF);clear h hl hc qQ qF ag;generalize Ia (f,t) m.F m.b.length=F2 at *;generalize m.b.length=n at *;go_enter func52,ntmps52;go_wp2_with fail;refine JL w (w.heap.size) (.cells #[.int .i64 f,.int .i64 t] 69) ?_;intro w1 AJ Aq;have AG:=AJ;have AH:=AB AJ Ag;apply Wild.AP (16) [⟨10,18,undef,true,C4 F2 c⟩,⟨11,7,undef,true,C4 F2 c⟩,⟨12,19,undef,true,fun u w=>QT w u F2⟩,⟨13,20,.int .i64 c,false,fun v _=>v=.int .i64 c⟩,⟨14,5,undef,true,fun u w=>QT w u F2⟩] [⟨10,18,C4 F2 c⟩,⟨11,7,C4 F2 c⟩,⟨12,19,fun u w=>QT w u F2⟩,⟨14,5,fun u w=>QT w u F2⟩] rfl AY AY AY Ar AY
 case hstab=>
  intro c hc;rcases Cv hc with rfl|rfl|rfl|rfl|rfl
  ·intro v x y BE hv;exact (fun h k=>C4.later h k) BE hv
  ·intro v x y BE hv;exact (fun h k=>C4.later h k) BE hv
  ·intro v x y BE hv;exact (fun h k=>QT.later k h) BE hv
  ·intro v x y BE hv;exact hv
  ·intro v x y BE hv;exact (fun h k=>QT.later k h) BE hv
 case hfix=>
  intro c hc;rcases Cv hc with rfl|rfl|rfl|rfl|rfl
  ·exact .inl rfl
  ·exact .inl rfl
  ·exact .inl rfl
  ·exact .inr fun u x h=>h
  ·exact .inl rfl
 case hlex=>
  intro U hU;have q0:=AE (AB hU AH);have q1:=AE (AB hU Aq);refine Hj ?_
  repeat (go_big_quiet_step (fail))
  exact wpQuiet_nil rfl
 case hstep=>
  intro j hj o ho;have CQ:j=0\/j=1\/j=2\/j=3\/j=4:=by simp at hj;omega
  rcases CQ with rfl|rfl|rfl|rfl|rfl
  ·cases ho;refine ⟨rfl,fun g x hx hp=>?_⟩;clear hp;refine Bp ?_;refine AO ?_ (Wild.Ai (HAdd x (AG.trans hx)));simp[go_sem,execOp]
  ·cases ho;refine ⟨rfl,fun g x hx hp=>?_⟩;have p18:(C4 F2 c) (g 10) x:=hp _ (mem_of_getElem? (i:=0) rfl) (List.contains_iff_mem.1 AY);clear hp;refine Bp ?_;refine Wild.Dv (v:=g 10) ?_ p18;simp[go_sem,execOp]
  ·cases ho;refine ⟨rfl,fun g x hx hp=>?_⟩;have p7:(C4 F2 c) (g 11) x:=hp _ (mem_of_getElem? (i:=1) rfl) (List.contains_iff_mem.1 AY);clear hp;refine Bp ?_
   (obtain ⟨vv,ev,rv⟩:=p7;refine Wild.Dv (v:=vv) ?_ rv;simp[go_sem,execOp,ev])
  ·cases ho;refine ⟨rfl,fun g x hx hp=>?_⟩;have p7:(C4 F2 c) (g 11) x:=hp _ (mem_of_getElem? (i:=1) rfl) (List.contains_iff_mem.1 AY);clear hp;refine Bp ?_
   (obtain ⟨vv,ev,rv⟩:=p7;refine Wild.Gx ?_;simp[go_sem,execOp,ev])
  ·cases ho;refine ⟨rfl,fun g x hx hp=>?_⟩;have zO:(fun u w=>QT w u F2) (g 12) x:=hp _ (mem_of_getElem? (i:=2) rfl) (List.contains_iff_mem.1 AY);clear hp;refine Bp ?_;refine Wild.Dv (v:=g 12) ?_ zO;simp[go_sem,execOp]
 case htail=>
  intro g u Aw Az;have AL:AA w1 (later u):=⟨u,rfl⟩;generalize later u=w2 at *;clear u Az;obtain ⟨i6,-⟩:=Aw _ (mem_of_getElem? (i:=0) rfl);(try dsimp only at i6)
  obtain ⟨pw,-⟩:=Aw _ (mem_of_getElem? (i:=1) rfl);(try dsimp only at pw)
  obtain ⟨jZ,-⟩:=Aw _ (mem_of_getElem? (i:=2) rfl);(try dsimp only at jZ)
  obtain ⟨PJ,-⟩:=Aw _ (mem_of_getElem? (i:=3) rfl);(try dsimp only at PJ)
  clear Aw;refine DH ?_;generalize g 10=v18 at *;generalize g 11=v7 at *;generalize g 12=v19 at *;generalize g 14=v5 at *;have AR:=AG.trans AL;have AU:=AB AL AH;obtain ⟨BS,Dj⟩:=DX AU;have HU:Hid (QT w2 v5 F2):=AC PJ;obtain ⟨A2,c2,rfl,-⟩:=HU.out.1.form;have Mf:=AC AR;generalize F2.length=n2 at *;clear i6 pw jZ PJ;by_cases h0:c=0
  ·subst h0;have sE:=AC (HM.out.1 rfl);have fW:=HS.out.later Mf.out;have HZ:Hid (∀w3,w3=w2.setCell ⟨d,2,none⟩ (.slice A2 n2 c2)->J9 w3 d {v with vf:=.slice A2 n2 c2} {m with F:=F2}/\DC d w2 w3):=AC (fun w3 e=>fW.set e (by simp[dC]) fW.b fW.s HU.out);clear fW;go_wp2_with fail;go_ret;obtain ⟨z1,z2⟩:=HZ _ rfl;refine ⟨rfl,⟨{v with vf:=.slice A2 n2 c2},?_⟩,DC.from Mf HS z2⟩;rw[sE.out];exact z1
  ·have d0:(c == 0)=false:=by simpa using h0
   go_wp2_with fail;go_ret;refine ⟨rfl,⟨v,?_⟩,DC.of Mf HS.out⟩;rw[HM.out.2 h0];exact HS.out.later Mf.out
theorem nB(n:Nat)(hn:n<=90000)(x:World):RT .i64 3 (x.alloc (.cells (madeCells #[.int .i64 0] n) 3)) (.slice (some ⟨x.heap.size,0,none⟩) n n) (replicate n 0):=(V_ x.heap.size n hn x (le_refl _)).rt
theorem Xv{l:List Int}(hu:lz u w)(hr:Lr w v l)(hl:l.length<=90000):
 ∃v' w',(Builtin.append_ #[22,22] 22 #[u,v]).run prog w=.ok v' w'/\AA w w'/\RT .u8 5 w' v' l:=by
 obtain ⟨i0,Gv,JM,Ie,JN⟩:=info_parts Ov;obtain ⟨ad,rfl⟩:=hu;obtain ⟨A,cap,rfl,h2,h3⟩:=hr;by_cases h0:0<l.length
 ·obtain ⟨b,off,rfl,hb,hc⟩:=h3 h0;have Pv:∀j x,(l.map (Value.int .u8))[j]?=some x->w.cell? ((⟨b,off,none⟩:Addr).add j)=some x:=by
   intro j x hx;have hj:j<l.length:=by
    rcases Nat.lt_or_ge j l.length with h|h
    ·exact h
    ·rw[List.getElem?_eq_none (by simpa using h)]at hx;cases hx
   rw[Db,hc j hj,<-hx];simp[hj]
  obtain ⟨v',w',k1,k2,k3⟩:=run_append_arg_grows (P:=prog) w 22 22 5 i0 (.int .u8 0) 1 1 underlying22 Gv JM Ie JN rfl (by decide) ad 0 0 [] rfl (fun j u hj=>by simp at hj) ⟨b,off,none⟩ l.length cap (l.map (Value.int .u8)) Ar Pv AD (by unfold maxLen;omega) AD;refine ⟨v',w',k1,.grown k3,ON.rt (t:=5) (B:=w.heap.size) ?_⟩;simpa using k2
 ·obtain rfl:=List.eq_nil_of_length_eq_zero (Nat.eq_zero_of_not_pos h0)
  cases A with
  |none=>
   have NL:=Src.ofNil (P:=prog) w (size:=i0.size) underlying22 cap;exact ⟨_,_,run_append_nothing (P:=prog) w 22 22 22 5 i0 underlying22 Gv (some ad) 0 0 (le_refl _) _ NL,.refl _,⟨some ad,0,rfl,le_refl _,fun h=>absurd h Ar⟩⟩
  |some a2=>
   refine ⟨.slice (some ad) 0 0,w,?_,.refl _,⟨some ad,0,rfl,le_refl _,fun h=>absurd h Ar⟩⟩;exact run_append_nothing (P:=prog) w 22 22 22 5 i0 underlying22 Gv (some ad) 0 0 (le_refl _) _ (Src.ofSlice (P:=prog) w (size:=i0.size) underlying22 a2 0 cap [] Ar (fun j x hx=>by simp at hx) (fun u hu=>by cases hu))
theorem dV(v:Value)(b:List Int)(most width:Int)(w:World)(hv:Lr w v b)(hl:b.length<=900):
 Calls prog 10 #[v,.int .i64 most,.int .i64 width] w fun e w'=>∃d,e=.returned (.pointer (some ⟨d,0,none⟩))/\AA w w'/\w.heap.size<=d/\∃v',J9 w' d v' (D_ b most width):=by
 have HW:=AC (fun w'=>Se width (Fo width) rfl w');have HV:=AC hv;obtain ⟨A,cap,rfl,-⟩:=hv.form;obtain ⟨wd,Pu⟩:=BZ (Fo width);have EM:Hid (D_ b most width={b:=b,S:=replicate b.length 0,F:=[],most:=most,wd:=wd,ld:=(((Ap 0 b).length+1:Nat):Int)}):=AC (by unfold D_;rw[Pu]);rw[Pu]at HW;clear hv Pu;obtain ⟨n,hn⟩:=BZ (b.length);have HN:=AC hn;rw[hn]at hl HV ⊢;clear hn;go_enter func10,ntmps10;go_wp2_with fail;apply Wild.AP (9) [⟨0,7,undef,true,lz⟩,⟨2,9,undef,true,fun u w=>RT .u8 5 w u b⟩,⟨5,12,undef,true,fun u w=>RT .i64 3 w u (replicate n 0)⟩,⟨8,15,.int .i64 wd,false,fun v _=>v=.int .i64 wd⟩] [⟨0,7,lz⟩,⟨2,9,fun u w=>RT .u8 5 w u b⟩,⟨5,12,fun u w=>RT .i64 3 w u (replicate n 0)⟩] rfl AY AY AY Ar AY
 case hstab=>
  intro c hc;rcases Cv hc with rfl|rfl|rfl|rfl
  ·intro v x y BE hv;exact lz.stays BE hv
  ·intro v x y BE hv;exact (fun h k=>RT.later k h) BE hv
  ·intro v x y BE hv;exact (fun h k=>RT.later k h) BE hv
  ·intro v x y BE hv;exact hv
 case hfix=>
  intro c hc;rcases Cv hc with rfl|rfl|rfl|rfl
  ·exact .inl rfl
  ·exact .inl rfl
  ·exact .inl rfl
  ·exact .inr fun u x h=>h
 case hlex=>
  intro U hU;refine Hj ?_
  repeat (go_big_quiet_step (fail))
  exact wpQuiet_nil rfl
 case hstep=>
  intro j hj o ho;have CQ:j=0\/j=1\/j=2\/j=3:=by simp at hj;omega
  rcases CQ with rfl|rfl|rfl|rfl
  ·cases ho;refine ⟨rfl,fun g x hx hp=>?_⟩;clear hp;refine Bp ?_;refine Wild.Ea (v:=.slice (some ⟨x.heap.size,0,none⟩) 0 0) (w':=x.alloc (.cells #[] 5)) (by simp[go_sem,execOp]) ((AA.refl x).alloc _) ⟨_,rfl⟩
  ·cases ho;refine ⟨rfl,fun g x hx hp=>?_⟩;have p7:(lz) (g 0) x:=hp _ (mem_of_getElem? (i:=0) rfl) (List.contains_iff_mem.1 AY);clear hp;refine Bp ?_
   (obtain ⟨v',w',q1,q2,q3⟩:=Xv p7 (HV.out.later hx) (by rw[HN.out];omega);exact Wild.lQ _ _ _ _ rfl _ _ rfl rfl q1 q2 q3)
  ·cases ho;refine ⟨rfl,fun g x hx hp=>?_⟩;clear hp;refine Bp ?_
   (have K13:=qA n AD x;refine Wild.Ea (v:=.slice (some ⟨x.heap.size,0,none⟩) n n) (w':=x.alloc (.cells (madeCells #[.int .i64 0] n) 3)) (by simp[go_sem,execOp,K13]) ((AA.refl x).alloc _) (nB n AD x))
  ·cases ho;refine ⟨rfl,fun g x hx hp=>?_⟩;clear hp;refine Bp ?_;refine AO ?_ (Wild.At ((HW x).mono (fun e w' ⟨h1,h2⟩=>⟨h1,h2 ▸ AA.refl _⟩)));simp[go_sem,execOp]
 case htail=>
  intro g u Aw Az;have AJ:AA w (later u):=⟨u,rfl⟩;generalize later u=w1 at *;clear u Az;obtain ⟨qW,-⟩:=Aw _ (mem_of_getElem? (i:=0) rfl);(try dsimp only at qW)
  obtain ⟨aT,-⟩:=Aw _ (mem_of_getElem? (i:=1) rfl);(try dsimp only at aT)
  obtain ⟨TG,-⟩:=Aw _ (mem_of_getElem? (i:=2) rfl);(try dsimp only at TG)
  clear Aw;refine DH ?_;generalize g 0=v7 at *;generalize g 2=v9 at *;generalize g 5=v12 at *;have j5:=AJ.below.size;have AG:=AJ;have HB:=AC aT;have HM:=AC TG;obtain ⟨A9,c9,rfl,-⟩:=aT.form;obtain ⟨A12,uF,rfl,-⟩:=TG.form;rw[length_replicate]at HM;have Jl:=HB;rw[HN.out]at Jl ⊢;rw[length_replicate];clear HB qW aT TG;go_wp2_with fail;go_ret;refine ⟨_,rfl,AG.alloc _,j5,⟨.slice A9 n c9,.slice A12 n uF,.slice none 0 0⟩,?_⟩;rw[EM.out];refine ⟨Ae rfl,Jl.out.later ((AA.refl _).alloc _),?_,QT.void _⟩;have:=HM.out.later ((AA.refl w1).alloc (.cells #[.slice A9 n c9,.slice A12 n uF,.slice none 0 0,.int .i64 most,.int .i64 wd] 44))
  rw[<-HN.out]at this ⊢;exact this
def Lb(S:List Int)(f:Nat)(st:Int)(j:Nat):List Int:=S.take f++replicate j st++S.drop (f+j)
theorem kK(h:f+j<S.length):(Lb S f st j).set (f+j) st=Lb S f st (j+1):=by
 unfold Lb;have hl:(S.take f).length=f:=by rw[length_take];omega
 have h1:(S.take f++replicate j st).length=f+j:=by rw[length_append,hl,length_replicate]
 rw[List.set_append_right _ _ AD,h1,sub_self,List.drop_eq_getElem_cons h,List.set_cons_zero,List.replicate_succ',<-List.append_assoc,<-Nat.add_assoc];simp
theorem Uo(h:f+j<=S.length):(Lb S f st j).length=S.length:=by
 unfold Lb;rw[length_append,length_append,length_take,length_replicate,length_drop];omega
theorem Rx(S:List Int)(f:Nat)(st:Int):Lb S f st 0=S:=by unfold Lb;simp
theorem VY{t:Nat}(h:f<=t):Lb S f st (t-f)=GQ S f t st:=by
 unfold Lb GQ;rw[toNat_natCast,toNat_natCast,show ((t:Int)-f).toNat=t-f by omega,show f+(t-f)=t by omega]
theorem QT.NJ{l:Qs}{i:Nat}{m:Nat × Nat}{x:Value}(h:QT w v l)(hg:w.heap[g]?=some (.cells cs t m))(ht:t≠69):QT (w.setCell ⟨g,i,none⟩ x) v l:=by
 have ho:∀(b:Nat) (La:Array Value),w.heap[b]?=some (.cells La 69)->(w.setCell ⟨g,i,none⟩ x).heap[b]?=some (.cells La 69):=fun b La hb=>Bh (fun e=>by rw[e,hg]at hb;cases hb;exact ht rfl) hb
 obtain ⟨⟨A,cap,rfl,h2,h3⟩,h4⟩:=h;refine ⟨⟨A,cap,rfl,h2,fun h0=>?_⟩,fun b hb=>?_⟩
 ·obtain ⟨b,off,rfl,hb,hc⟩:=h3 h0;obtain ⟨La,FS⟩:=h4 b rfl;have e:∀o,(w.setCell ⟨g,i,none⟩ x).cell? ⟨b,o,none⟩=w.cell? ⟨b,o,none⟩:=fun o=>by rw[AE (ho _ _ FS),AE FS]
  exact ⟨b,off,rfl,by rw[World.size_setCell];exact hb,fun j hj=>⟨(e _).trans (hc j hj).1,(e _).trans (hc j hj).2⟩⟩
 ·obtain ⟨La,FS⟩:=h4 b hb;exact ⟨La,ho _ _ FS⟩
structure DS(B:Nat)(w:World)(d:Nat)(v:DV)(m:Sc)(g cap:Nat)(S:List Int):Prop where
 at_:J9 w d {v with vs:=.slice (some ⟨g,0,none⟩) S.length cap} {m with S:=S}
 own:ON .i64 3 w B (.slice (some ⟨g,0,none⟩) S.length cap) S
 ne:g≠d
theorem DS.put{v:DV}{cap:Nat}(h:DS B w d v m g cap S)(i:Nat)(x:Int)(hi:i<S.length):DS B (w.setCell ⟨g,i,none⟩ (.int .i64 x)) d v m g cap (S.set i x):=by
 have o:=h.own.set (i:=i) x;have l:(S.set i x).length=S.length:=List.length_set;have st:AZ (fun k=>k=g) w (w.setCell ⟨g,i,none⟩ (.int .i64 x)):=(AZ.refl (fun k=>k=g) w).setCell (b:=g) rfl _;obtain ⟨g',DZ,cur,e,h1,h2,h3⟩:=h.own.at AD;cases e;refine ⟨⟨?_,?_,?_,?_⟩,by rw[l];exact o,h.ne⟩
 ·have:=st.own h.at_.CT (fun e=>h.ne e.symm)
  rw[this];simp[dC]
 ·exact h.at_.b.NJ h2 (by decide)
 ·have:=o.rt
  rw[l];exact this
 ·exact h.at_.f.NJ h2 (by decide)
theorem Uk:BL st=true↔0<=st/\st<=23:=by
 unfold BL;simp;omega
theorem Vt{v:DV}(f t st:Int)(w:World)(h:J9 w d v m)(Nb:m.S.length=m.b.length)(hl:m.b.length<=900):
 Calls prog 51 #[.pointer (some ⟨d,0,none⟩),.int .i64 f,.int .i64 t,.int .i64 st] w fun e w'=>e=.returned (.int .i64 (Mm m f t st))/\(∃v',J9 w' d v' (Iw m f t st))/\DC d w w':=by
 obtain ⟨A1,c1,ag,-⟩:=h.b.form;obtain ⟨A2,c2,vF,-⟩:=h.s.form;have HS:=AC h;have Ag:=h.CT;simp only[dC]at Ag;rw[ag,vF]at Ag;obtain ⟨Bx,Wj,Wk⟩:=GH Ag;have HSL:=AC Nb;obtain ⟨n,hn⟩:=BZ (m.b.length);rw[Nb]at Ag Bx;rw[hn]at Ag Bx hl;have eC:Mm m f t st=if f<0\/t<f\/(n:Int)<t then 1 else if BL st then 0 else 5:=by unfold Mm;rw[Nb,hn]
 by_cases g1:f<0\/t<f\/(n:Int)<t
 ·rw[if_pos g1]at eC;have eM:Iw m f t st=m:=by unfold Iw;rw[eC];rfl
  rw[eC,eM];clear h ag vF Nb hn eC eM HSL;go_enter func51,ntmps51;by_cases g2:f<0
  ·go_wp2_with fail;go_ret;exact ⟨rfl,⟨v,HS.out⟩,DC.of (.refl _) HS.out⟩
  ·by_cases g3:t<f
   ·go_wp2_with fail;go_ret;exact ⟨rfl,⟨v,HS.out⟩,DC.of (.refl _) HS.out⟩
   ·have g4:(n:Int)<t:=AD;go_wp2_with fail;go_ret;exact ⟨rfl,⟨v,HS.out⟩,DC.of (.refl _) HS.out⟩
 ·rw[if_neg g1]at eC;have g2:¬f<0:=AD;have g3:¬t<f:=AD;have g4:¬(n:Int)<t:=AD;by_cases g5:BL st=true
  ·rw[if_pos g5]at eC;obtain ⟨k,hk⟩:=BZ (m.ld+((BC m.b t-BC m.b f+1:Nat):Int));have eM:Iw m f t st={m with S:=GQ m.S f t st,ld:=k}:=by unfold Iw;rw[eC,hk];rfl
   rw[eC,eM];have g6:=Uk.1 g5;have g7:¬st<0:=AD;have g8:¬(23:Int)<st:=AD;obtain ⟨u,w2,k1,k2,k3⟩:=Zq h.s.rn AD;rw[vF,Nb,hn]at k1;have K1:=AC k1;have K2:=AC (And.intro k2 k3);obtain ⟨f',rfl⟩:=Int.eq_ofNat_of_zero_le (show 0<=f by omega);obtain ⟨t',rfl⟩:=Int.eq_ofNat_of_zero_le (show 0<=t by omega);have qL:f'<=t':=AD;have htn:t'<=n:=AD;have SQ:Hid (m.S.length=n):=AC (by rw[Nb,hn]);clear h ag vF Nb hn eC eM HSL k1 k2 k3 hk g1 g5;have a2:=K2.out.1;have AU:=AB a2 Ag;obtain ⟨BS,Dj⟩:=DX AU;have fW:=HS.out.later a2;have nH:RT .i64 3 w2 u m.S:=K2.out.2.rt;have HZ:Hid (∀w3,w3=w2.setCell ⟨d,1,none⟩ u->J9 w3 d {v with vs:=u} m/\DC d w2 w3):=AC (fun w3 e=>fW.set e (by simp[dC]) fW.b nH fW.f);obtain ⟨A3,c3,hu,-⟩:=nH.form;clear a2 fW nH;by_cases g9:f'<t'
   ·obtain ⟨g,cap,cur,rfl,ci,pj,sK,hg4,hg5,hg6⟩:=K2.out.2.at (by rw[SQ.out];omega);have J8:g≠d:=AD;rw[SQ.out]at K1 K2 HZ;clear pj sK hg4 hg5 hg6 hu;go_enter func51,ntmps51;go_wp2_with (at_builtin;refine Lib.wpList_append_run _ rfl _ _ _ _ rfl _ _ rfl rfl _ _ K1.out ?_)
    have h0:DS w.heap.size (w2.setCell ⟨d,1,none⟩ (.slice (some ⟨g,0,none⟩) n cap)) d v m g cap (Lb m.S f' st 0)/\DC d w (w2.setCell ⟨d,1,none⟩ (.slice (some ⟨g,0,none⟩) n cap)):=by
     obtain ⟨z1,z2⟩:=HZ _ rfl;rw[Rx];have e:m.S.length=n:=SQ.out;refine ⟨⟨by rw[e];exact z1,?_,J8⟩,DC.from K2.out.1 HS z2⟩;rw[e];exact K2.out.2.stays z2.1 (fun k hk=>by cases hk;exact J8)
    have H0:=AC h0;clear h0 Ag Bx Wj AU BS Dj;go_loopg [9] (t'-f') (fun kk iv wr=>∃j:Nat,kk=t'-f'-j/\f'+j<=t'/\iv=.int .i64 ((f'+j:Nat):Int)/\DS w.heap.size wr d v m g cap (Lb m.S f' st j)/\DC d w wr)
    case atStart=>exact ⟨0,rfl,AD,rfl,H0.out⟩
    case round=>
     obtain ⟨j,hkk,hj,rfl,q1,q2⟩:=hrel;have HQ:=AC (And.intro q1 q2);have s0:=q1.at_.CT;simp only[dC]at s0;have hlen:(Lb m.S f' st j).length=n:=by rw[Uo (by rw[SQ.out];omega),SQ.out]
     rw[hlen]at s0;have r0:=AE s0;obtain ⟨g',DZ,cur',e,-,s1,-,-,-,e6⟩:=q1.own.at (by rw[hlen];omega);cases e;have f1:=Bq s1;clear q1 q2 s0;by_cases BN:f'+j<t'
     ·have i0:((f'+j:Nat):Int)<(t':Int):=AD;have i1:((f'+j:Nat):Int)<(n:Int):=AD;have r1:=AE s1;have c1:=e6 (f'+j) (by rw[hlen];omega);generalize (Lb m.S f' st j)[f'+j]=y at c1;have HP:Hid (DS w.heap.size (wr.setCell ⟨g,f'+j,none⟩ (.int .i64 st)) d v m g cap (Lb m.S f' st (j+1))/\DC d w (wr.setCell ⟨g,f'+j,none⟩ (.int .i64 st))):=AC (by
       have q:=HQ.out.1.put (f'+j) st (by rw[hlen];omega);rw[kK (by rw[SQ.out];omega)]at q;have st1:AZ (fun k=>k=g) wr (wr.setCell ⟨g,f'+j,none⟩ (.int .i64 st)):=(AZ.refl (fun k=>k=g) wr).setCell (b:=g) rfl _;exact ⟨q,HQ.out.2.1.more st1 (fun q hq=>by have:q=g:=hq;right;omega),HQ.out.2.2⟩)
      clear e6 hlen;go_wp2_with fail;go_roundg (t'-f'-(j+1))
      case measure=>omega
      case rel=>exact ⟨j+1,rfl,AD,by go_num,HP.out⟩
     ·obtain rfl:f'+j=t':=AD
      go_wp2_with fail;go_ret;refine ⟨rfl,⟨{v with vs:=.slice (some ⟨g,0,none⟩) (Lb m.S f' st j).length cap},?_⟩,HQ.out.2⟩;have q:=HQ.out.1.at_;rw[show GQ m.S f' ((f'+j:Nat):Int) st=Lb m.S f' st j by rw[<-VY AD,show f'+j-f'=j by omega]];exact ⟨q.CT,q.b,q.s,q.f⟩
   ·obtain rfl:f'=t':=AD
    subst hu;go_enter func51,ntmps51;go_wp2_with (at_builtin;refine Lib.wpList_append_run _ rfl _ _ _ _ rfl _ _ rfl rfl _ _ K1.out ?_)
    obtain ⟨z1,z2⟩:=HZ _ rfl;have HY:=AC (And.intro z1 (DC.from K2.out.1 HS z2));clear z1 z2 Ag Bx Wj AU BS Dj;go_loopg [9] 0 (fun kk iv wr=>kk=0/\iv=.int .i64 (f':Int)/\wr=w2.setCell ⟨d,1,none⟩ (.slice A3 m.S.length c3))
    case atStart=>exact ⟨rfl,rfl,rfl⟩
    case round=>
     obtain ⟨rfl,rfl,rfl⟩:=hrel;go_wp2_with fail;go_ret;refine ⟨rfl,⟨{v with vs:=.slice A3 m.S.length c3},?_⟩,HY.out.2⟩;have q:=HY.out.1;rw[<-VY (le_refl _),sub_self,Rx];exact ⟨q.CT,q.b,q.s,q.f⟩
  ·rw[if_neg g5]at eC;have eM:Iw m f t st=m:=by unfold Iw;rw[eC];rfl
   rw[eC,eM];have g6:¬(0<=st/\st<=23):=fun q=>g5 (Uk.2 q)
   clear h ag vF Nb hn eC eM HSL g1 g5;go_enter func51,ntmps51;by_cases g7:st<0
   ·clear g6;go_wp2_with fail;go_ret;exact ⟨rfl,⟨v,HS.out⟩,DC.of (.refl _) HS.out⟩
   ·have g8:(23:Int)<st:=AD;clear g6;go_wp2_with fail;go_ret;exact ⟨rfl,⟨v,HS.out⟩,DC.of (.refl _) HS.out⟩
noncomputable def lV(m:Sc):Qs:=Bo (Co (Bu m.wd) m.b m.S) (Be m.b m.F)
noncomputable def da(m:Sc)(k:Nat):Int:=DG ((lV m).take k)
theorem XC(m:Sc):(lV m).length=(Ap 0 m.b).length+1:=by unfold lV Bo;rw[List.length_zipWith,Cc,BT,Nat.min_self]
theorem kq(v:Value)(l:Qs)(w:World)(hv:QR w v l):Calls prog 55 #[v] w fun e w'=>∃u,e=.returned u/\AA w w'/\QT w' u (l.take 20):=by
 by_cases h0:l.length<=20
 ·obtain ⟨u,w2,q1,q2,q3⟩:=aL Bk hv AD;have K1:=AC q1;rw[List.take_of_length_le h0];have K2:=AC (And.intro q2 q3.qt);obtain ⟨A,cap,rfl,-⟩:=hv.form;clear q1 q2 q3 hv;generalize l.length=n at *;have i0:¬(20:Int)<(n:Int):=AD;go_enter func55,ntmps55;go_wp2_with (at_builtin;refine Lib.wpList_append_run _ rfl _ _ _ _ rfl _ _ rfl rfl _ _ K1.out ?_)
  go_ret;exact ⟨_,rfl,K2.out⟩
 ·obtain ⟨A1,Cg,p1,k1⟩:=hv.Sk Bk 20 AD;obtain ⟨u,w2,q1,q2,q3⟩:=aL Bk p1 (by rw[length_take];omega);have K1:=AC q1;have K2:=AC (And.intro q2 q3.qt);obtain ⟨A,cap,rfl,-⟩:=hv.form;have yI:∀w',(Instr.sliceAt 36 (.slice A l.length cap) none (some (.int .i64 20)) none).run prog w'=.ok (.slice A1 20 Cg) w':=k1;clear q1 q2 q3 hv p1 k1;generalize l.length=n at *;have i0:(20:Int)<(n:Int):=AD;go_enter func55,ntmps55;go_wp2_with (at_builtin;refine Lib.wpList_append_run _ rfl _ _ _ _ rfl _ _ rfl rfl _ _ K1.out ?_)
  go_ret;exact ⟨_,rfl,K2.out⟩
theorem zK(m:Sc){k:Nat}(hk:k<=(Ap 0 m.b).length):Nz (Be m.b m.F) (k:Int)=Gz (Ap 0 m.b) m.b.length (k:Int) m.F:=by
 unfold Nz;rw[dif_pos ⟨AD,by rw[BT];omega⟩];unfold Be;simp only[List.getElem_map,List.getElem_range,toNat_natCast]
theorem kV(m:Sc){k:Nat}(hk:k<=(Ap 0 m.b).length+1):DG ((Bo (Co (Bu m.wd) m.b m.S) (Be m.b m.F)).take (JR (Bo (Co (Bu m.wd) m.b m.S) (Be m.b m.F)) (k:Int)))=da m k:=by
 have hl:=XC m;unfold lV at hl;have e:JR (Bo (Co (Bu m.wd) m.b m.S) (Be m.b m.F)) (k:Int)=k:=by
  unfold JR Cq;rw[hl];split
  ·omega
  ·split <;> omega
 rw[e];rfl
theorem Wv(m:Sc){k:Nat}(hk:k<=(Ap 0 m.b).length):Fe m (k:Int)=C6 m.wd (A_ m.b m.b k) (A_ m.b m.S k):=by
 unfold Fe;rw[if_pos ⟨AD,AD⟩,toNat_natCast]
theorem Dr.hv(h:Dr B w s x m b S L H):HV B w (.pointer (some ⟨x.hg,0,none⟩)) L H:=.inr ⟨_,_,rfl,h.RF⟩
def qu(i1 i2 i3 i4:Nat)(W:World)(O:Nat->Value->World->Prop):Nat->(Nat->Value)->World->Prop
 |0,_,x=>AA W x
 |1,g,x=>AA W x/\O 0 (g i1) x
 |2,g,x=>AA W x/\O 1 (g i2) x
 |3,g,x=>AA W x/\O 2 (g i3) x
 |_,g,x=>AA W x/\O 3 (g i4) x
def tI(L:Nat->Qs)(B:Nat)(k:Nat)(u:Value)(x:World):Prop:=OQ 69 x B u (L k)
def Yt(a b:Qs):Nat->Qs
 |0=>[]
 |1=>a
 |_=>a++b
theorem up0{a b:Qs}{x:World}:tI (Yt a b) B 0 u x↔OQ 69 x B u []:=Iff.rfl
theorem up1{a b:Qs}{x:World}:tI (Yt a b) B 1 u x↔OQ 69 x B u a:=Iff.rfl
theorem up2{a b:Qs}{x:World}:tI (Yt a b) B 2 u x↔OQ 69 x B u (a++b):=Iff.rfl
theorem UD{v:DV}(y:Int)(w:World)(h:J9 w d v m)(hl:m.F.length<=60000):
 Calls prog 53 #[.pointer (some ⟨d,0,none⟩),.int .i64 y] w fun e w'=>e=.returned (.int .i64 (QS m y))/\(∃v',J9 w' d v' (KC m y))/\DC d w w':=by
 have HS:=AC h;obtain ⟨A,cap,hv,h2,h3⟩:=h.f.1;have Kk:Hid (∀(j:Nat) (h:j<m.F.length),∃b off,A=some ⟨b,off,none⟩/\b<w.heap.size/\w.cell? ⟨b,off+j*2,none⟩=some (.int .i64 m.F[j].1)/\w.cell? ⟨b,off+j*2+1,none⟩=some (.int .i64 m.F[j].2)):=AC (fun j hj=>by
  obtain ⟨b,off,e,hb,hc⟩:=h3 AD;exact ⟨b,off,e,hb,hc j hj⟩)
 have HQ:=AC h.f.1;have Ag:=h.CT;simp only[dC]at Ag;rw[hv]at Ag HQ;obtain ⟨Bx,Wj,Wk⟩:=GH Ag;have zA:Hid (∀(j:Nat) (h:j<m.F.length),(m.F.take (j+1)).any (Gg y)=((m.F.take j).any (Gg y) || Gg y m.F[j])):=AC (fun j h=>by
  rw[List.take_succ_eq_append_getElem h,List.any_append];simp)
 have RC:Hid ((m.F.take m.F.length).any (Gg y)=false->QS m y=3/\KC m y=m):=AC (fun q=>by
  rw[List.take_length]at q;have e:=(Su q).1;unfold KC QS;rw[e];exact ⟨rfl,rfl⟩)
 have Gb:Hid (∀(j:Nat) (h:j<m.F.length),(m.F.take j).any (Gg y)=false->Gg y m.F[j]=true->QS m y=0/\KC m y={m with F:=m.F.take j++m.F.drop (j+1)}):=AC (fun j h q1 q2=>by
  obtain ⟨e1,e2⟩:=Z7 h q1 q2;unfold KC QS;rw[e1,e2];exact ⟨rfl,rfl⟩)
 obtain ⟨n,hn⟩:=BZ (m.F.length);have HN:=AC hn;rw[hn]at Ag Bx hl HQ RC;clear h h2 h3 hv hn;go_enter func53,ntmps53;go_wp2_with fail;go_loopg [5] n (fun k i wr=>∃j:Nat,k=n-j/\j<=n/\i=.int .i64 (j:Int)/\wr=w/\(m.F.take j).any (Gg y)=false)
 case atStart=>exact ⟨0,AD,AD,rfl,rfl,by rw[List.take_zero];rfl⟩
 case round=>
  obtain ⟨j,hk,hj,rfl,rfl,hg⟩:=hrel;have HG:=AC hg;clear hg;by_cases BN:j<n
  ·have lj:j<m.F.length:=by rw[HN.out];exact BN
   have i0:(j:Int)<(n:Int):=AD;obtain ⟨b,off,rfl,hb,k0,k1⟩:=Kk j lj;have HT:=AC (zA j lj);have HA:=AC (fun q=>Gb j lj HG q);obtain ⟨f,hf⟩:=BZ (m.F[j].1);obtain ⟨t,ht⟩:=BZ (m.F[j].2);have HP:Hid (Gg y m.F[j]=decide (f<=y/\y<t)):=AC (by unfold Gg;rw[hf,ht]);rw[hf]at k0;rw[ht]at k1;clear hf ht;by_cases h1:f<=y/\y<t
   ·obtain ⟨q1,q2⟩:=h1;have HR:=AC (HA (by rw[HP.out];exact decide_eq_true ⟨q1,q2⟩));have zY:QR wr (.slice (some ⟨b,off,none⟩) m.F.length cap) m.F:=by rw[HN.out];exact HQ.out
    obtain ⟨A1,Cg,p1,kk1⟩:=zY.Sk Bk j AD;obtain ⟨u3,p3,kk3⟩:=zY.jp Bk (j+1) AD;rw[HN.out]at kk1 kk3;have K1:=AC kk1;have xe:∀w',(Instr.sliceAt 36 (.slice (some ⟨b,off,none⟩) n cap) (some (.int .i64 ((j:Int)+1))) none none).run prog w'=.ok u3 w':=kk3;have K3:=AC xe;obtain ⟨A3,E7,rfl,-⟩:=p3.form;have eV:(m.F.drop (j+1)).length=n-(j+1):=by rw[length_drop,HN.out]
    rw[eV]at K3 p3;have P1:=AC p1;have P3:=AC p3;clear kk1 kk3 xe zY p1 p3 eV;go_wp2_with fail;apply CS 19 [(1,undef),(8,undef),(16,undef)] [⟨1,38,fun _ _=>True⟩,⟨8,45,fun _ _=>True⟩,⟨16,53,fun _ _=>True⟩] (fun x=>x.heap[d]?=some (.cells #[v.vb,v.vs,.slice (some ⟨b,off,none⟩) n cap,.int .i64 m.most,.int .i64 m.wd] 44)) (qu 1 8 16 0 wr (tI (Yt (m.F.take j) (m.F.drop (j+1))) wr.heap.size)) AY AY AY Ar AY (Df Ag) (fun _=>(AA.refl wr).drew)
    case hlex=>
     intro U hU;have qU:=AE hU;have qs1:=K1.out;have qs3:=K3.out;simp only[actFrom,actOp,List.lookup,Nat.reduceBEq,Nat.reduceLeDiff,Nat.reduceAdd,if_false,if_true]
     repeat (go_big_quiet_step (fail))
     exact wpQuiet_nil rfl
    case hact=>
     intro jj WT o ho;have PA:jj=0\/jj=1\/jj=2:=by simp at WT;omega
     rcases PA with rfl|rfl|rfl
     ·cases ho;refine ⟨rfl,fun g x hC hS=>?_⟩;have D9:AA wr x:=hS;refine Bp ?_;exact Cb (w':=x.alloc (.cells #[] 69)) (by simp[go_sem,execOp]) ⟨AB ((AA.refl x).alloc _) hC,.inl ⟨_,mem_of_getElem? (i:=0) rfl,rfl⟩,D9.alloc _,up0.2 (OQ.empty D9.below.size (Ae rfl))⟩
     ·cases ho;refine ⟨rfl,fun g x hC hS=>?_⟩;obtain ⟨a1,o0⟩:AA wr x/\tI (Yt (m.F.take j) (m.F.drop (j+1))) wr.heap.size 0 (g 1) x:=hS;have o1:=up0.1 o0;obtain ⟨v',x',r1,r2,r3⟩:=OZ Bk o1 (P1.out.later a1) a1.below.size (by rw[length_take,HN.out,List.length_nil];omega);have a2:=OQ.grown o1 (le_refl _) a1 r3;have c2:x'.heap[d]?=some (.cells #[v.vb,v.vs,.slice (some ⟨b,off,none⟩) n cap,.int .i64 m.most,.int .i64 m.wd] 44):=AB a2 Ag;refine Bp ?_;exact Whole.ET _ _ _ _ rfl _ _ rfl rfl r1 ⟨c2,.inl ⟨_,mem_of_getElem? (i:=1) rfl,rfl⟩,a2,up1.2 r2⟩
     ·cases ho;refine ⟨rfl,fun g x hC hS=>?_⟩;obtain ⟨a1,o0⟩:AA wr x/\tI (Yt (m.F.take j) (m.F.drop (j+1))) wr.heap.size 1 (g 8) x:=hS;have o1:=up1.1 o0;obtain ⟨v',x',r1,r2,r3⟩:=OZ Bk o1 (P3.out.later a1) a1.below.size (by rw[length_take,length_drop,HN.out];omega);have a2:=OQ.grown o1 (le_refl _) a1 r3;have c2:x'.heap[d]?=some (.cells #[v.vb,v.vs,.slice (some ⟨b,off,none⟩) n cap,.int .i64 m.most,.int .i64 m.wd] 44):=AB a2 Ag;refine Bp ?_;exact Whole.ET _ _ _ _ rfl _ _ rfl rfl r1 ⟨c2,.inl ⟨_,mem_of_getElem? (i:=2) rfl,rfl⟩,a2,up2.2 r2⟩
    case htail=>
     intro g wz hC hS;obtain ⟨a1,o0⟩:AA wr wz/\tI (Yt (m.F.take j) (m.F.drop (j+1))) wr.heap.size 2 (g 16) wz:=hS;have o1:=up2.1 o0;clear o0;refine DH ?_;generalize g 16=u at *;have me:=HS.out.later a1;have HZ:Hid (∀w3,w3=wz.setCell ⟨d,2,none⟩ u->J9 w3 d {v with vf:=u} {m with F:=m.F.take j++m.F.drop (j+1)}/\DC d wz w3):=AC (fun w3 e=>me.set e (by simp[dC]) me.b me.s o1.qt);have Ej:=AC a1;have mM:wz.heap[d]?=some (.cells #[v.vb,v.vs,.slice (some ⟨b,off,none⟩) n cap,.int .i64 m.most,.int .i64 m.wd] 44):=hC;obtain ⟨xn,xj⟩:=DX mM;obtain ⟨A5,c5,rfl,-⟩:=(OQ.rq o1).form;generalize (m.F.take j++m.F.drop (j+1)).length=n5 at *;clear o1 hC me Bx Ag Wj k0 k1;go_wp2_with fail;go_ret;obtain ⟨z1,z2⟩:=HZ _ rfl;refine ⟨by simp[HR.out.1],⟨{v with vf:=.slice A5 n5 c5},?_⟩,DC.from Ej HS z2⟩;rw[HR.out.2];exact z1
   ·have HF:Hid ((m.F.take (j+1)).any (Gg y)=false):=AC (by rw[HT.out,HG.out,HP.out,decide_eq_false h1];rfl);by_cases h2:f<=y
    ·have h3:¬y<t:=fun q=>h1 ⟨h2,q⟩
     clear h1;go_wp2_with fail;go_roundg (n-(j+1))
     case measure=>omega
     case rel=>exact ⟨j+1,rfl,AD,by go_num,rfl,HF.out⟩
    ·clear h1;go_wp2_with fail;go_roundg (n-(j+1))
     case measure=>omega
     case rel=>exact ⟨j+1,rfl,AD,by go_num,rfl,HF.out⟩
  ·obtain rfl:j=n:=AD
   obtain ⟨z1,z2⟩:=RC HG.out;have HE:=AC (And.intro z1 z2);clear z1 z2;go_wp2_with fail;go_ret;refine ⟨by simp[HE.out.1],⟨v,?_⟩,DC.of (.refl _) HS.out⟩;rw[HE.out.2];exact HS.out
def PW(S:List Int)(a o n:Nat):List Int:=Do S a o (replicate n (DF (IZ S a o) a))
theorem ac(h:a+o<=S.length):I5 (IZ S a o) a n=PW S a o n:=by
 unfold I5 PW Do;have h1:(S.take a).length=a:=by rw[length_take];omega
 have e:IZ S a o=S.take a++S.drop (a+o):=by
  unfold IZ;rw[toNat_natCast,show ((a:Int)+o).toNat=a+o by omega]
 rw[toNat_natCast,toNat_natCast];generalize DF (IZ S a o) a=y;rw[e,List.take_append_of_le_length AD,List.take_of_length_le AD,List.drop_append,h1,sub_self,List.drop_zero,List.drop_of_length_le AD,List.nil_append]
theorem SO(h:∀s∈S,BL s=true)(a o:Int):∀s∈IZ S a o,BL s=true:=by
 intro s hs;unfold IZ at hs;rcases List.mem_append.1 hs with q|q
 ·exact h s (List.mem_of_mem_take q)
 ·exact h s (List.mem_of_mem_drop q)
theorem U0(h:a+o<=S.length):(IZ S a o).length=S.length-o:=by
 unfold IZ;rw[length_append,length_take,length_drop];omega
theorem gx(h:∀s∈S,BL s=true)(a:Int):BL (DF S a)=true:=by
 unfold DF;rw[List.getD_eq_getElem?_getD];rcases Nat.lt_or_ge (a-1).toNat S.length with q|q
 ·rw[List.getElem?_eq_getElem q];exact h _ (List.getElem_mem q)
 ·rw[List.getElem?_eq_none q];rfl
theorem VW(h:∀s∈S,BL s=true)(a o n:Nat):∀s∈PW S a o n,BL s=true:=by
 intro s hs;unfold PW Do at hs;rcases List.mem_append.1 hs with q|q
 ·rcases List.mem_append.1 q with q|q
  ·exact h s (List.mem_of_mem_take q)
  ·rw[List.eq_of_mem_replicate q];exact gx (SO h _ _) _
 ·exact h s (List.mem_of_mem_drop q)
theorem Qu(h:a+o<=S.length):(PW S a o n).length=S.length-o+n:=by
 unfold PW;rw[F7 h,length_replicate]
theorem dj(h:BX b)(hi:BX i):BX (Do b a o i):=by
 intro c hc;unfold Do at hc;rcases List.mem_append.1 hc with q|q
 ·rcases List.mem_append.1 q with q|q
  ·exact h c (List.mem_of_mem_take q)
  ·exact hi c q
 ·exact h c (List.mem_of_mem_drop q)
theorem aX(hr:Mc w v (BM S))(hg:∀s∈S,BL s=true)(hl:S.length<=40000):Cf w v (BM S):=by
 have l:=C5 S;exact ⟨hr,UO hg AD,AD⟩
theorem Mc.but{m:Nat × Nat}(h:Mc w v l)(hb:LL g w w')(hg:w.heap[g]?=some (.cells cs t m))(Az:t≠76):Mc w' v l:=by
 have key:∀{b:Nat} {La:Array Value},w.heap[b]?=some (.cells La 76)->w'.heap[b]?=some (.cells La 76):=fun q=>hb.own q (fun e=>by
  rw[e,hg]at q;cases q;exact Az rfl)
 have kc:∀{b o:Nat} {y:Value} {La:Array Value},w.heap[b]?=some (.cells La 76)->w.cell? ⟨b,o,none⟩=some y->w'.cell? ⟨b,o,none⟩=some y:=fun q hy=>by
  rw[AE (key q),<-AE q];exact hy
 obtain ⟨⟨A,cap,rfl,h2,h3⟩,h4⟩:=h;refine ⟨⟨A,cap,rfl,h2,fun h0=>?_⟩,fun b Rh=>?_⟩
 ·obtain ⟨b,off,rfl,bL,hc⟩:=h3 h0;obtain ⟨La,FS⟩:=h4 b rfl;exact ⟨b,off,rfl,Nat.lt_of_lt_of_le bL hb.size,fun j hj=>⟨kc FS (hc j hj).1,kc FS (hc j hj).2⟩⟩
 ·obtain ⟨La,FS⟩:=h4 b Rh;exact ⟨La,key FS⟩
theorem eJ(v1 v2:Value)(S:List Int)(a o n:Nat)(w:World)(h:Mc w v1 (BM S))(hg:∀s∈S,BL s=true)(hl:S.length<=20000)(T6:a+o<=S.length)(hn:n<=20000):
 Calls prog 81 #[.agg #[v1,v2],.int .i64 (a:Int),.int .i64 (o:Int),.int .i64 (n:Int)] w fun e w'=>∃u1 u2,e=.returned (.agg #[u1,u2])/\AA w w'/\Mc w' u1 (BM (PW S a o n))/\RT .i64 3 w' u2 (Cu (BM (PW S a o n))):=by
 have hd:gT (BM S) a o=(BM (IZ S a o),0):=by
  unfold gT;rw[ar hg AD,if_neg AD]
 have gd:=SO hg a o;have ld:=U0 T6;have hi:lH (BM (IZ S a o)) a n=(BM (PW S a o n),0):=by
  unfold lH;rw[ar gd AD,if_neg AD,if_neg AD,ac T6]
 have HD:=AC (fun (w':World) (q:AA w w')=>Lu.del (BM S) _ a o 0 hd (aX (h.later q) hg AD) (show BO (a:Int) from ⟨AD,AD⟩) (show BO (o:Int) from ⟨AD,AD⟩));have HI:=AC (fun (w':World) (u:Value) (q:Mc w' u (BM (IZ S a o)))=>Lu.ins (BM (IZ S a o)) _ a n 0 hi (aX q gd AD) (show BO (a:Int) from ⟨AD,AD⟩) (show BO (n:Int) from ⟨AD,AD⟩));have g2:=VW hg a o n;have l2:=Qu (n:=n) T6;have HO:=AC (fun (w':World) (u:Value) (q:FH w' u (BM (PW S a o n)))=>O7 u (BM (PW S a o n)) w' q (Mx g2 AD) (by have:=C5 (PW S a o n);omega) (by rw[G0 g2 AD];omega));obtain ⟨A0,c0,rfl,-⟩:=h.1;clear h hg hd gd ld hi g2 l2;generalize BM (IZ S a o)=R1 at *;generalize BM (PW S a o n)=R2 at *;generalize (BM S).length=l0 at *;go_enter func81,ntmps81;go_wp2_with fail;refine AQ (fun wS=>AA w wS/\wS.heap[w.heap.size]?=some (.cells #[.slice A0 l0 c0,v2] 78)/\wS.heap[w.heap.size+1]?=some (.cells #[.slice none 0 0,.slice none 0 0] 78)) ⟨BQ,CG,CG⟩ ?_;rintro w1 ⟨AJ,AH,Aq⟩;have AG:=AJ;refine (HD _ AG).mono ?_;rintro e w2 ⟨u1,rfl,AL,q1⟩;have AR:=AG.trans AL;have BH:=AB AL Aq;have nY:=AC q1;obtain ⟨A1,c1,rfl,-⟩:=q1.1;generalize R1.length=l1 at *;clear q1;go_wp2_with fail;refine (HI _ _ nY.out).mono ?_;rintro e w3 ⟨u2,rfl,AX,q2⟩;have An:=AR.trans AX;have BD:=AB AX BH;have SB:=AC q2;obtain ⟨A2,c2,rfl,-⟩:=q2.1;generalize R2.length=l2 at *;clear q2;go_wp2_with fail;refine (HO _ _ SB.out.1).mono ?_;rintro e w4 ⟨u3,rfl,Ao,o4⟩;have Bl:=An.trans Ao;have CE:=AB Ao BD;obtain ⟨Is,Me⟩:=DX CE;have qD:=AC (And.intro (SB.out.later Ao) (ON.rt o4));obtain ⟨A3,c3,rfl,-⟩:=(ON.rt o4).form;generalize (Cu R2).length=l3 at *;clear o4;have ua:w.heap.size<=w.heap.size+1:=AD;have a5:AA w ((w4.setCell ⟨w.heap.size+1,0,none⟩ (.slice A2 l2 c2)).setCell ⟨w.heap.size+1,1,none⟩ (.slice A3 l3 c3)):=(Bl.setCell (p:=⟨w.heap.size+1,0,none⟩) ua _).setCell (p:=⟨w.heap.size+1,1,none⟩) ua _;have h5:((w4.setCell ⟨w.heap.size+1,0,none⟩ (.slice A2 l2 c2)).setCell ⟨w.heap.size+1,1,none⟩ (.slice A3 l3 c3)).heap[w.heap.size+1]?=some (.cells #[.slice A2 l2 c2,.slice A3 l3 c3] 78):=BI (BI CE rfl) rfl;have wL:LL (w.heap.size+1) w4 ((w4.setCell ⟨w.heap.size+1,0,none⟩ (.slice A2 l2 c2)).setCell ⟨w.heap.size+1,1,none⟩ (.slice A3 l3 c3)):=((LL.of (AA.refl w4)).setCell 0 _).setCell 1 _;have HZ:=AC (And.intro a5 (And.intro (qD.out.1.but wL CE (by decide)) (qD.out.2.but wL CE (by decide))));have m0:=AE h5 0;have m1:=AE h5 1;clear a5 h5 wL;go_wp2_with fail;generalize (w4.setCell ⟨w.heap.size+1,0,none⟩ (.slice A2 l2 c2)).setCell ⟨w.heap.size+1,1,none⟩ (.slice A3 l3 c3)=w5 at *;exact bodyPost_ret (v:=.agg #[.slice A2 l2 c2,.slice A3 l3 c3]) (by simp[results,results81,go_sem,m0,m1]) rfl ⟨_,_,rfl,HZ.out⟩
theorem Dr.text{t2:Tr}(h:Dr B w s x m b S L H)(hb:LL x.g w w')(hr:KE w' x.g m.most t2)(ok:t2.Ok):Dr B w' s {x with t:=t2} m t2.bs S L H/\Ch B w w':=by
 obtain ⟨_,rv,h2,_⟩:=h.tx;have st:AZ (fun k=>k=x.g) w w':=⟨hb.os,hb.tape,hb.output,hb.size,fun k hk hn=>hb.block k hk hn⟩;have c:Ch B w w':=AZ.wide st (fun k _ hk=>by
  obtain rfl:k=x.g:=hk
  exact ⟨h.bg,_,_,_,h2,.inr (.inl rfl)⟩)
 have hg:s≠x.g:=fun q=>by
  have e:=h.CT;rw[q,h2]at e;cases e
 refine ⟨⟨hb.own h.CT hg,h.tx.put hb hr,ok,rfl,h.runs.ch c,h.ends.ch c Js,h.Hl.ch c,?_,h.bs,h.bg⟩,c⟩;exact h.RF.off st (fun k hk=>by
  obtain rfl:k=x.g:=hk
  exact ⟨_,_,_,h2,.inr rfl⟩)
theorem eE(a o:Nat)(w:World)(h:Dr B w s x m b S L H)(T6:a+o<=b.length):
 Calls prog 79 #[.pointer (some ⟨x.tg,0,none⟩),.int .i64 (a:Int),.int .i64 (o:Int)] w fun e w'=>∃u,e=.returned (.tuple #[u,.int .i64 0])/\PT ((b.drop a).take o) u w'/\Ch B w w'/\∃t2,Dr B w' s {x with t:=t2} m (Do b a o []) S L H:=by
 have hlen:x.t.len=b.length:=by rw[<-Tr.Bv,h.tb]
 rcases Nat.eq_zero_or_pos o with h0|h0
 ·subst h0;have HI:Hid (∀w',AA w w'->Calls prog 120 #[.pointer (some ⟨x.g,0,none⟩),.int .i64 (a:Int),.int .i64 ((0:Nat):Int)] w' fun e Bg=>∃u,e=.returned (.tuple #[u,.int .i64 0])/\LL x.g w' Bg/\KE Bg x.g m.most x.t/\PT [] u Bg):=AC (fun w' q=>by
   have hr:=(h.later q).tx.2;refine (eX x.g m.most x.t a w' hr h.tok ⟨AD,AD,AD,AD⟩).mono ?_;rintro e Bg ⟨rfl,b2⟩;exact ⟨_,rfl,.of b2,hr.later b2,⟨none,0,rfl,le_refl _,fun q=>absurd q Ar⟩⟩)
  refine (WB x.tg x.g m.most x.t a ((0:Nat):Int) 0 [] (fun w'=>KE w' x.g m.most x.t) w h.tx HI).mono ?_;rintro e w' ⟨u,rfl,q1,q2,q3⟩;obtain ⟨r1,r2⟩:=h.text q1 q2 h.tok;refine ⟨u,rfl,by rw[List.take_zero];exact q3,r2,x.t,?_⟩;have e:Do b a 0 []=x.t.bs:=by rw[h.tb];unfold Do;rw[append_nil,add_zero,List.take_append_drop]
  rw[e];exact r1
 ·have HI:Hid (∀w',AA w w'->Calls prog 120 #[.pointer (some ⟨x.g,0,none⟩),.int .i64 (a:Int),.int .i64 (o:Int)] w' fun e Bg=>∃u,e=.returned (.tuple #[u,.int .i64 0])/\LL x.g w' Bg/\KE Bg x.g m.most (TL x.t a o)/\PT ((b.drop a).take o) u Bg):=AC (fun w' q=>by
   have:=j6 x.g m.most x.t a o w' (h.later q).tx.2 h.tok AD h0
   rwa [h.tb]at this)
  refine (WB x.tg x.g m.most x.t a o 0 _ (fun w'=>KE w' x.g m.most (TL x.t a o)) w h.tx HI).mono ?_;rintro e w' ⟨u,rfl,q1,q2,q3⟩;obtain ⟨r1,r2⟩:=h.text q1 q2 (nR h.tok);refine ⟨u,rfl,q3,r2,TL x.t a o,?_⟩;have e:Do b a o []=(TL x.t a o).bs:=by rw[ax,h.tb];unfold Do;rw[append_nil]
  rw[e];exact r1
theorem dQ(a:Nat)(v:Value)(i:List Int)(w:World)(h:Dr B w s x m b S L H)(ha:a<=b.length)(hv:RN .u8 w v i)(hi:BX i)(hl:b.length+i.length<=60000)(hm:((b.length+i.length:Nat):Int)<=m.most/\m.most<=16777216):
 Calls prog 80 #[.pointer (some ⟨x.tg,0,none⟩),.int .i64 (a:Int),v] w fun e w'=>e=.returned (.int .i64 0)/\Ch B w w'/\∃t2,Dr B w' s {x with t:=t2} m (Do b a 0 i) S L H:=by
 have hlen:x.t.len=b.length:=by rw[<-Tr.Bv,h.tb]
 have hv':=hv;obtain ⟨A,cap,rfl,-⟩:=hv.form;rcases Nat.eq_zero_or_pos i.length with h0|h0
 ·obtain rfl:=List.eq_nil_of_length_eq_zero h0
  have HI:Hid (∀w',AA w w'->Calls prog 121 #[.pointer (some ⟨x.g,0,none⟩),.int .i64 (a:Int),.slice A ([]:List Int).length cap] w' fun e Bg=>e=.returned (.int .i64 0)/\LL x.g w' Bg/\KE Bg x.g m.most x.t):=AC (fun w' q=>by
   have hr:=(h.later q).tx.2;refine (Sd x.g m.most x.t a A cap w' hr h.tok AD (by simp at hm;omega) (by simp at hm;omega)).mono ?_;rintro e Bg ⟨rfl,b2⟩;exact ⟨rfl,.of b2,hr.later b2⟩)
  refine (V3 x.tg x.g m.most x.t a 0 A _ cap (fun w'=>KE w' x.g m.most x.t) w h.tx HI).mono ?_;rintro e w' ⟨rfl,q1,q2⟩;obtain ⟨r1,r2⟩:=h.text q1 q2 h.tok;refine ⟨rfl,r2,x.t,?_⟩;have e:Do b a 0 []=x.t.bs:=by rw[h.tb];unfold Do;rw[append_nil,add_zero,List.take_append_drop]
  rw[e];exact r1
 ·have HI:Hid (∀w',AA w w'->Calls prog 121 #[.pointer (some ⟨x.g,0,none⟩),.int .i64 (a:Int),.slice A i.length cap] w' fun e Bg=>e=.returned (.int .i64 0)/\LL x.g w' Bg/\KE Bg x.g m.most (M7 x.t a i)):=AC (fun w' q=>Wi x.g m.most x.t a _ i w' (h.later q).tx.2 h.tok AD (hv'.later q) hi h0 AD AD AD);refine (V3 x.tg x.g m.most x.t a 0 A _ cap (fun w'=>KE w' x.g m.most (M7 x.t a i)) w h.tx HI).mono ?_;rintro e w' ⟨rfl,q1,q2⟩;obtain ⟨r1,r2⟩:=h.text q1 q2 (au h.tok AD h0 hi AD);refine ⟨rfl,r2,M7 x.t a i,?_⟩;have e:Do b a 0 i=(M7 x.t a i).bs:=by rw[UF,h.tb];unfold Do;rw[add_zero,List.append_assoc]
  rw[e];exact r1
theorem oN(h:a+o<=b.length):Do (Do b a o []) a 0 i=Do b a o i:=by
 unfold Do;have h1:(b.take a).length=a:=by rw[length_take];omega
 rw[append_nil,add_zero,List.take_append_of_le_length AD,List.take_of_length_le AD,List.drop_append,h1,sub_self,List.drop_zero,List.drop_of_length_le AD,List.nil_append]
open Classical in
noncomputable def PK(m:Sc)(a o:Int)(n:Nat):Int:=if ¬Fj a o m.b.length then 1 else if m.most-((m.b.length:Int)-o)<n then 2 else 0
noncomputable def mq(m:Sc)(a o:Int)(n:Nat):List Int:=if PK m a o n=0 then (m.b.drop a.toNat).take o.toNat else []
noncomputable def Zx(m:Sc)(a o:Int)(i:List Int):Sc:=if PK m a o i.length=0 then {m with b:=Do m.b a.toNat o.toNat i,S:=PW m.S a.toNat o.toNat i.length,F:=Bf a o i.length m.F,ld:=m.ld+((BC (Do m.b a.toNat o.toNat i) ((a.toNat+i.length:Nat):Int)-BC m.b a+1:Nat):Int)} else m
theorem jN(a o:Int)(v:Value)(i:List Int)(w:World)(h:KD B w s x m)(hv:RN .u8 w v i)(hi:i.length<=900)(ho:BO o)(hc:PK m a o i.length≠0):
 Calls prog 30 #[.pointer (some ⟨s,0,none⟩),.int .i64 a,.int .i64 o,v] w fun e w'=>e=.returned (.tuple #[.slice none 0 0,.int .i64 (PK m a o i.length)])/\AA w w':=by
 have HT:=AC (fun (w':World) (q:AA w w')=>Ir w' (h.p.later q));have Lp:=h.ok.len;have Dk:=h.ok.most;obtain ⟨A,cap,rfl,-⟩:=hv.form;have Ag:=h.p.CT;simp only[KF]at Ag;have ly:=AA.refl w;have Bx:=AE Ag;by_cases h1:Fj a o m.b.length
 ·have im:=AC (fun (w':World)=>II a o m.b.length w' h1 AD);have h2:m.most-((m.b.length:Int)-o)<i.length:=by
   rcases Int.lt_or_le (m.most-((m.b.length:Int)-o)) i.length with q|q
   ·exact q
   ·exact absurd (by unfold PK;rw[if_neg (fun k=>k h1),if_neg AD]) hc
  have e2:PK m a o i.length=2:=by unfold PK;rw[if_neg (fun k=>k h1),if_pos h2]
  rw[e2];obtain ⟨q1,q2,q3,q4⟩:=h1;clear h hv hc e2;generalize m.b.length=n at *;generalize i.length=k at *;generalize m.most=most at *;go_enter func30,ntmps30;go_wp2_with fail;refine (HT _ ly).mono ?_;rintro e w1 ⟨rfl,AJ⟩;have AG:=AJ;have AH:=AB AJ Ag;(try clear Bx);go_wp2_with fail;refine (im w1).mono ?_;rintro e w' ⟨rfl,rfl⟩;go_wp2_with fail;apply AP (15) [⟨10,43,.int .i64 (n:Int),false,fun v _=>v=.int .i64 (n:Int)⟩] [] rfl AY AY AY Ar AY
  case hstab=>
   intro c hc;rcases Cv hc with rfl
   ·intro v x y BE hv;exact hv
  case hfix=>
   intro c hc;rcases Cv hc with rfl
   ·exact .inr fun u x h=>h
  case hlex=>
   intro U hU;have q0:=AE (AB hU AH);refine Hj ?_
   repeat (go_big_quiet_step (first|fail))
   exact wpQuiet_nil rfl
  case hstep=>
   intro j hj o ho;have CQ:j=0:=by simp at hj;omega
   rcases CQ with rfl
   ·cases ho;refine ⟨rfl,fun g x hx hp=>?_⟩;clear hp;refine Bp ?_;refine AO ?_ (At (HT x (AG.trans hx)));simp[go_sem,execOp]
  case htail=>
   intro g u Aw Az;have AL:AA w1 (later u):=⟨u,rfl⟩;generalize later u=w2 at *;clear u;clear Aw Az;refine DH ?_;have AR:=AG.trans AL;go_wp2_with fail;exact bodyPost_ret (v:=.tuple #[.slice none 0 0,.int .i64 2]) (by simp[results,results30,go_sem]) rfl ⟨rfl,AR⟩
 ·have im:=AC (fun (w':World)=>Yz a o m.b.length w' h1 AD AD);have e1:PK m a o i.length=1:=by unfold PK;rw[if_pos h1]
  rw[e1];clear h hv hc e1 h1;generalize m.b.length=n at *;generalize i.length=k at *;go_enter func30,ntmps30;go_wp2_with fail;refine (HT _ ly).mono ?_;rintro e w1 ⟨rfl,AJ⟩;have AG:=AJ;have AH:=AB AJ Ag;(try clear Bx);go_wp2_with fail;refine (im w1).mono ?_;rintro e w' ⟨rfl,rfl⟩;go_wp2_with fail;exact bodyPost_ret (v:=.tuple #[.slice none 0 0,.int .i64 1]) (by simp[results,results30,go_sem]) rfl ⟨rfl,AG⟩
theorem cy(a o:Nat)(v:Value)(i:List Int)(w:World)(h:KD B w s x m)(hg:RM B w)(hv:RT .u8 5 w v i)(hi:BX i)(T6:a+o<=m.b.length)(hm:(i.length:Int)<=m.most-((m.b.length:Int)-o))(tO:m.b.length+i.length<=900)(S6:m.ld<=900000000):
 Calls prog 30 #[.pointer (some ⟨s,0,none⟩),.int .i64 (a:Int),.int .i64 (o:Int),v] w fun e w'=>∃u,e=.returned (.tuple #[u,.int .i64 0])/\PT ((m.b.drop a).take o) u w'/\Ch B w w'/\∃x',KD B w' s x' {m with b:=Do m.b a o i,S:=PW m.S a o i.length,F:=Bf a o i.length m.F,ld:=m.ld+((BC (Do m.b a o i) ((a+i.length:Nat):Int)-BC m.b a+1:Nat):Int)}:=by
 have Nb:=h.ok.sl;have Dk:=h.ok.most;obtain ⟨b',Rh⟩:∃b',Do m.b a o i=b':=⟨_,rfl⟩;obtain ⟨S',uS⟩:∃S',PW m.S a o i.length=S':=⟨_,rfl⟩;obtain ⟨F',tD⟩:∃F',Bf a o i.length m.F=F':=⟨_,rfl⟩;have Lp:b'.length=m.b.length-o+i.length:=by rw[<-Rh];exact F7 T6
 have hSl:S'.length=m.S.length-o+i.length:=by rw[<-uS];exact Qu AD
 have QO:Sw b' S':=⟨by rw[<-Rh];exact dj h.ok.O6 hi,AD,by rw[<-uS];exact VW h.ok.sg _ _ _,AD⟩;have E3:Fv m.b.length b'.length a o i.length:=⟨AD,AD,AD,AD,AD,by have:=h.ok.len;omega,AD⟩;have hFg:BJ b'.length 0 F'=true:=by rw[<-tD];exact E3.MS m.F 0 0 AD h.ok.fg (by unfold rZ;split <;> (try split) <;> omega)
 have hFl:F'.length<=100:=by rw[<-tD];have:=NR (a:Int) o i.length m.F;have:=h.ok.fl;omega
 have L3:=lR (b:=m.b) (a:=a) (o:=o) (i:=i) T6;rw[Rh]at L3;obtain ⟨first,h1⟩:∃k,BC m.b a=k:=⟨_,rfl⟩;obtain ⟨last,h2⟩:∃k,BC m.b ((a+o:Nat):Int)=k:=⟨_,rfl⟩;obtain ⟨now,h3⟩:∃k,BC b' ((a+i.length:Nat):Int)=k:=⟨_,rfl⟩;rw[Rh,uS,tD,h1,h3];have pq:T5 m.b a o i first last now:=by
  have q:=lR (b:=m.b) (a:=a) (o:=o) (i:=i) T6;rw[Rh]at q;unfold BC at h1 h2 h3;rwa [h1,h2,h3]at q
 have sS:=oB (Bu m.wd) (b:=m.b) (S:=m.S) (i:=i) (j:=replicate i.length (DF (IZ m.S a o) a)) pq T6 Nb (length_replicate);have vy:∀T:Qs,(∀y,C9 T y=(decide ((first:Int)<=y/\y<=now) && Gz (Ap 0 b') b'.length y F'))->Gr T true (G_ (Be m.b m.F) (replicate (now-first+1) false) first (last-first+1))=Be b' F':=fun T hT=>by
  rw[<-Rh,<-tD];exact ou pq T6 h.ok.fg (by have:=h.ok.len;omega) AD (fun y=>by rw[hT y,Rh,tD])
 rw[show Do m.S a o (replicate i.length (DF (IZ m.S a o) a))=S' from uS,Rh]at sS;have OT:=h.nf;have J13:(Ap 0 b').length<=900:=Nat.le_trans (Dg b' 0) QO.len;have q1:=pq.le1;have q2:=pq.le2;have q3:=pq.ll;have q4:=pq.ln;have q5:=pq.tail;rw[Rh]at q4 q5;have im:=AC (fun (w':World) (x':ES) (q:Dr B w' s x' {m with F:=F'} b' S' (Co (Bu m.wd) m.b m.S) (Be m.b m.F)) (kw:RM B w')=>(by
  refine (VV first last now w' q QO kw.nX q.base h.ok.kL (by have:=h.ok.ld;show 0<=m.ld/\m.ld<=_;omega) q1 q2 (by rw[Cc];omega) q4 (by rw[Cc];omega) (by rw[Cc];omega) (by show F'.length<=900;omega)).mono ?_;rintro e Bg ⟨rfl,T,hT,K',r1,r2⟩;rw[vy T hT]at r1;have r3:G_ (Co (Bu m.wd) m.b m.S) (Fq (Bu m.wd) b' S' first (now-first+1)) first (last-first+1)=Co (Bu m.wd) b' S':=sS.symm
  have r4:Dr B Bg s {x' with K:=K'} {m with F:=F',ld:=m.ld+((now-first+1:Nat):Int)} b' S' (G_ (Co (Bu m.wd) m.b m.S) (Fq (Bu m.wd) b' S' first (now-first+1)) first (last-first+1)) (Be b' F'):=r1;rw[r3]at r4;exact ⟨rfl,K',r4,r2⟩:Calls prog 83 #[.pointer (some ⟨s,0,none⟩),.int .i64 (first:Int),.int .i64 (last:Int),.int .i64 (now:Int)] w' fun e Bg=>e=.returned (.tuple #[])/\∃K',Dr B Bg s {x' with K:=K'} {m with F:=F',ld:=m.ld+((now-first+1:Nat):Int)} b' S' (Co (Bu m.wd) b' S') (Be b' F')/\Ch B w' Bg))
 have HT:=AC (fun (w':World) (q:AA w w')=>Ir w' (h.p.later q));have qK:=AC (fun (w':World)=>II (a:Int) (o:Int) m.b.length w' ⟨AD,AD,AD,AD⟩ AD);have mE:=AC (fun (w':World) (q:AA w w')=>GC a first w' (h.p.later q) AD h1);have UT:=AC (fun (w':World) (q:AA w w')=>GC (a+o) last w' (h.p.later q) AD h2);have Q16:=AC (fun (w':World) (q:AA w w')=>eE a o w' (h.p.later q) T6);have Iz:(Do m.b a o []).length=m.b.length-o:=by rw[F7 T6];simp
 have oI:=AC (fun (w':World) (x':ES) (q:Dr B w' s x' m (Do m.b a o []) m.S (Co (Bu m.wd) m.b m.S) (Be m.b m.F)) (r:RT .u8 5 w' v i)=>(by
  have:=dQ a v i w' q AD r.rn hi AD ⟨AD,AD⟩
  rwa [oN T6,Rh]at this:Calls prog 80 #[.pointer (some ⟨x'.tg,0,none⟩),.int .i64 (a:Int),v] w' fun e Bg=>e=.returned (.int .i64 0)/\Ch B w' Bg/\∃t2,Dr B Bg s {x' with t:=t2} m b' m.S (Co (Bu m.wd) m.b m.S) (Be m.b m.F)))
 have HEd:=AC (fun (w':World) (u1 u2:Value) (q:Mc w' u1 (BM m.S))=>(by
  have:=eJ u1 u2 m.S a o i.length w' q h.ok.sg (by have:=h.ok.len;omega) AD AD
  rwa [uS]at this:Calls prog 81 #[.agg #[u1,u2],.int .i64 (a:Int),.int .i64 (o:Int),.int .i64 (i.length:Int)] w' fun e Bg=>∃y1 y2,e=.returned (.agg #[y1,y2])/\AA w' Bg/\Mc Bg y1 (BM S')/\RT .i64 3 Bg y2 (Cu (BM S'))))
 have bD:=AC (fun (w':World) (u:Value) (q:QT w' u m.F)=>kl u m.F a o i.length F' w' tD q.1 (by have:=h.ok.fl;omega));have HL3:=AC (fun (w':World) (x':ES) (q:Dr B w' s x' {m with F:=F'} b' S' (Co (Bu m.wd) m.b m.S) (Be m.b m.F))=>(by
  have:=GC (a+i.length) now w' q AD h3
  rwa [Int.natCast_add]at this:Calls prog 70 #[.pointer (some ⟨s,0,none⟩),.int .i64 ((a:Int)+(i.length:Int))] w' fun e Bg=>e=.returned (.int .i64 (now:Int))/\AA w' Bg))
 have Q5:Hid (Sc.Ok {m with b:=b',S:=S',F:=F',ld:=m.ld+((now-first+1:Nat):Int)}):=AC ⟨QO.O6,QO.sl,QO.sg,QO.len,hFg,hFl,⟨by show (b'.length:Int)<=m.most;omega,Dk.2⟩,h.ok.wd,by have:=h.ok.ld;show 0<=m.ld+_/\m.ld+_<=1000000000;omega⟩;have YK:=AC hg;have HV:=AC hv;have i0:decide (m.most-((m.b.length:Int)-o)<(i.length:Int))=false:=decide_eq_false AD;have i1:a<=900/\o<=900/\i.length<=900/\m.b.length<=900:=by have:=h.ok.len;omega
 obtain ⟨A1,Cg,rfl,-⟩:=hv.form;have Ag:=h.p.CT;simp only[KF]at Ag;have ly:=AA.refl w;have Bx:=AE Ag;have e4:(a:Int)+(o:Int)=((a+o:Nat):Int):=AD;rw[e4]at qK;clear e4;clear h hg hv hi T6 hm tO S6 Nb Lp hSl QO E3 hFg hFl L3 h1 h2 h3 pq sS vy OT J13 q1 q2 q3 q4 q5 Iz Rh uS tD;have zm:=Dk.1;have zz:=Dk.2;clear Dk;generalize hn:m.b.length=n at *;generalize hk:i.length=k at *;obtain ⟨i2,i3,i4,i5⟩:=i1;generalize a+o=ao at *;go_enter func30,ntmps30;go_wp2_with fail;refine (HT _ ly).mono ?_;rintro e w1 ⟨rfl,AJ⟩;have AG:=AJ;have AH:=AB AJ Ag;(try clear Bx);go_wp2_with fail;refine (qK w1).mono ?_;rintro e w' ⟨rfl,rfl⟩;go_wp2_with fail;apply AP (15) [⟨10,43,.int .i64 (n:Int),false,fun v _=>v=.int .i64 (n:Int)⟩] [] rfl AY AY AY Ar AY
 case hstab=>
  intro c hc;rcases Cv hc with rfl
  ·intro v x y BE hv;exact hv
 case hfix=>
  intro c hc;rcases Cv hc with rfl
  ·exact .inr fun u x h=>h
 case hlex=>
  intro U hU;have q0:=AE (AB hU AH);refine Hj ?_
  repeat (go_big_quiet_step (first|fail))
  exact wpQuiet_nil rfl
 case hstep=>
  intro j hj o ho;have CQ:j=0:=by simp at hj;omega
  rcases CQ with rfl
  ·cases ho;refine ⟨rfl,fun g x hx hp=>?_⟩;clear hp;refine Bp ?_;refine AO ?_ (At (HT x (AG.trans hx)));simp[go_sem,execOp]
 case htail=>
  intro g u Aw Az;have AL:AA w1 (later u):=⟨u,rfl⟩;generalize later u=w2 at *;clear u;clear Aw Az;refine DH ?_;have AR:=AG.trans AL;have AU:=AB AL AH;go_wp2_with fail;refine (mE _ AR).mono ?_;rintro e w3 ⟨rfl,AX⟩;have An:=AR.trans AX;have Ah:=AB AX AU;go_wp2_with fail;refine (UT _ An).mono ?_;rintro e w4 ⟨rfl,Ao⟩;have Bl:=An.trans Ao;have BK:=AB Ao Ah;obtain ⟨Dz,FK,OS⟩:=GH BK;go_wp2_with fail;refine (Q16 w4 Bl).mono ?_;rintro e w5 ⟨u5,rfl,g5,c5,t5,p5⟩;have uV:=AC (And.intro p5 ((Ch.of Bl).trans c5));have HG5:=AC g5;obtain ⟨A5,IA,rfl,-⟩:=PT.form g5;generalize ((m.b.drop a).take o).length=gl at *;have DD:=p5.CT;simp only[KF]at DD;obtain ⟨ND,Rk,xC⟩:=GH DD;clear g5 c5 p5 Dz FK BK OS;go_wp2_with fail;refine (oI w5 _ uV.out.1 (HV.out.ch uV.out.2 Jf)).mono ?_;rintro e w6 ⟨rfl,c6,t6,p6⟩;have uE:=AC (And.intro p6 (uV.out.2.trans c6));have z6:=AC c6;have Lv:=p6.CT;simp only[KF]at Lv;obtain ⟨W8,WU,wD⟩:=GH Lv;clear c6 p6 ND Rk DD xC;go_wp2_with fail;refine (HEd w6 _ _ uE.out.1.runs).mono ?_;rintro e w7 ⟨y1,y2,rfl,Fp,r1,r2⟩;have qk:=AC (And.intro ((uE.out.1.later Fp).NG r1 r2) ((Ch.of Fp).trans (Ch.NG (uE.out.1.later Fp) y1 y2)));have Lg:=AB Fp Lv;obtain ⟨jz,pR,xE⟩:=GH Lg;obtain ⟨A7,c7,rfl,-⟩:=r1.1;obtain ⟨A8,c8,rfl,-⟩:=r2.form;generalize (BM S').length=l7 at *;generalize (Cu (BM S')).length=l8 at *;have S8:=qk.out.1.CT;simp only[KF]at S8;clear r1 r2 W8 WU Lv wD Fp;go_wp2_with fail;generalize (w7.setCell ⟨s,2,none⟩ (.slice A7 l7 c7)).setCell ⟨s,3,none⟩ (.slice A8 l8 c8)=w8 at *;obtain ⟨pb,qV,ww⟩:=GH S8;clear jz pR Lg xE;refine (bD w8 _ qk.out.1.Hl).mono ?_;rintro e w9 ⟨u9,rfl,nm,o9⟩;have vw:=qk.out.1.later nm;have xl:Hid (Ch B w8 (w9.setCell ⟨s,4,none⟩ u9)):=AC ((Ch.of nm).trans (AZ.setCell (AZ.refl _ w9) vw.self u9));have oH:=AC (And.intro (vw.store (i:=4) (v:=u9) (x':={x with t:=t6,v1:=.slice A7 l7 c7,v2:=.slice A8 l8 c8,v3:=u9}) (m':={m with F:=F'}) (by simp[KF]) ⟨rfl,rfl,rfl,rfl,rfl,rfl⟩ vw.runs vw.ends o9.qt) ((uE.out.2.trans qk.out.2).trans xl.out));have Vg:=AB nm S8;obtain ⟨p_,qh,w_⟩:=GH Vg;obtain ⟨A9,c9,rfl,-⟩:=(OQ.rq o9).form;generalize F'.length=l9 at *;clear o9 vw nm pb qV S8 ww;go_wp2_with fail;generalize w9.setCell ⟨s,4,none⟩ (.slice A9 l9 c9)=yB at *;clear p_ qh Vg w_;refine (HL3 yB _ oH.out.1).mono ?_;rintro e w11 ⟨rfl,xm⟩;have l5:=AC xm;clear xm;go_wp2_with fail;refine (im w11 _ (oH.out.1.later l5.out) ((YK.out.ch oH.out.2).later l5.out)).mono ?_;rintro e XN ⟨rfl,K12,p12,uF⟩;have hc:=oH.out.2.trans ((Ch.of l5.out).trans uF);have hg:PT ((m.b.drop a).take o) (.slice A5 gl IA) XN:=(((HG5.out.ch z6 Jf).ch qk.out.2 Jf).ch xl Jf).ch ((Ch.of l5.out).trans uF) Jf;have HZ:=AC (And.intro hg (And.intro hc p12));clear hg hc p12 uF;go_wp2_with fail;exact bodyPost_ret (v:=.tuple #[.slice A5 gl IA,.int .i64 0]) (by simp[results,results30,go_sem]) rfl ⟨_,rfl,HZ.out.1,HZ.out.2.1,_,Q5.out,HZ.out.2.2.as rfl rfl rfl rfl⟩
end
end Go.Proofs.YtamhnffokoejjaaGreatDoor
