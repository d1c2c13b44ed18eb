import Derived.Test.YtamhnffokoejjaaGreatDoorKwbr
set_option linter.all false
set_option maxHeartbeats 6400000
set_option maxRecDepth 100000
namespace Go.Proofs.YtamhnffokoejjaaGreatDoor
open List(mem_cons not_mem_nil length_take length_drop length_append lookup mem_of_getElem? drop_zero drop_nil)
open Nat(le_refl reduceLeDiff reduceAdd le_trans)
open Go.Proofs.Tryz
open Go.RowKit
section
variable{v:DV}{kk:IntKind}{a b c:List Int}{B:Nat}{m m' m1 m2:Sc}{t:TypeId}{u:Value}{w w' x y y':World}
def bP(kk:IntKind)(t:TypeId)(L:Nat->List Int)(B:Nat)(k:Nat)(u:Value)(x:World):Prop:=ON kk t x B u (L k)
def c_(a b c:List Int):Nat->List Int
 |0=>[]
 |1=>a
 |2=>a++b
 |_=>a++b++c
theorem yM:bP kk t (c_ a b c) B 0 u x↔ON kk t x B u []:=Iff.rfl
theorem ye:bP kk t (c_ a b c) B 1 u x↔ON kk t x B u a:=Iff.rfl
theorem yq:bP kk t (c_ a b c) B 2 u x↔ON kk t x B u (a++b):=Iff.rfl
theorem un3:bP kk t (c_ a b c) B 3 u x↔ON kk t x B u (a++b++c):=Iff.rfl
theorem bN{d:Nat}(a o:Int)(vi:Value)(i:List Int)(w:World)(h:J9 w d v m)(hl:m.b.length<=60000)(hi:Lr w vi i)(sF:i.length<=900)(ho:BO o)(hm:0<=m.most/\m.most<=16777216)(hc:PK m a o i.length≠0):
 Calls prog 59 #[.pointer (some ⟨d,0,none⟩),.int .i64 a,.int .i64 o,vi] w fun e w'=>∃u,e=.returned (.tuple #[u,.int .i64 (PK m a o i.length)])/\AA w w'/\Lr w' u []:=by
 obtain ⟨A1,c1,ag,-⟩:=h.b.form;have Ag:=h.CT;simp only[dC]at Ag;rw[ag]at Ag;have Bx:=AE Ag;obtain ⟨A9,c9,rfl,-⟩:=hi.form;obtain ⟨c,Eu⟩:=BZ (PK m a o i.length);rw[Eu]at hc ⊢;unfold PK Fj at Eu;obtain ⟨n,hn⟩:=BZ (m.b.length);obtain ⟨k,hk⟩:=BZ (i.length);rw[hn]at Ag Bx hl Eu;rw[hk]at Eu sF ⊢;clear h ag hi hk hn;have hE:∀x:World,Lr (x.alloc (.cells #[] 5)) (.slice (some ⟨x.heap.size,0,none⟩) 0 0) []:=fun x=>⟨_,0,rfl,le_refl _,fun h=>absurd h (by decide)⟩
 have HE:=AC hE;clear hE;by_cases g1:a<0
 ·rw[if_pos AD]at Eu;subst Eu;go_enter func59,ntmps59;go_wp2_with fail;refine bodyPost_ret (v:=.tuple #[.slice (some ⟨w.heap.size,0,none⟩) 0 0,.int .i64 1]) (by simp[results,results59,go_sem]) rfl ⟨_,rfl,(AA.refl w).alloc _,HE w⟩
 ·by_cases g2:o<0
  ·rw[if_pos AD]at Eu;subst Eu;go_enter func59,ntmps59;go_wp2_with fail;refine bodyPost_ret (v:=.tuple #[.slice (some ⟨w.heap.size,0,none⟩) 0 0,.int .i64 1]) (by simp[results,results59,go_sem]) rfl ⟨_,rfl,(AA.refl w).alloc _,HE w⟩
  ·by_cases g3:(n:Int)<a
   ·rw[if_pos AD]at Eu;subst Eu;go_enter func59,ntmps59;go_wp2_with fail;refine bodyPost_ret (v:=.tuple #[.slice (some ⟨w.heap.size,0,none⟩) 0 0,.int .i64 1]) (by simp[results,results59,go_sem]) rfl ⟨_,rfl,(AA.refl w).alloc _,HE w⟩
   ·by_cases g4:(n:Int)-a<o
    ·rw[if_pos AD]at Eu;subst Eu;go_enter func59,ntmps59;go_wp2_with fail;refine bodyPost_ret (v:=.tuple #[.slice (some ⟨w.heap.size,0,none⟩) 0 0,.int .i64 1]) (by simp[results,results59,go_sem]) rfl ⟨_,rfl,(AA.refl w).alloc _,HE w⟩
    ·rw[if_neg AD]at Eu;have g5:m.most-((n:Int)-o)<(k:Int):=by
      by_cases q:m.most-((n:Int)-o)<(k:Int)
      ·exact q
      ·rw[if_neg q]at Eu;exact absurd Eu.symm hc
     rw[if_pos g5]at Eu;subst Eu;go_enter func59,ntmps59;go_wp2_with fail;apply Ac (15) [] AY AY Ar
     case hstab=>
      intro e he v x y BE hv;simp only[mem_cons,not_mem_nil,or_false]at he
     case hlex=>
      intro U;have q0:=fun (v:BA (later U))=>AE (AB ⟨v,rfl⟩ (AB ⟨U,rfl⟩ Ag))
      refine Ku ?_
      repeat (go_big_quiet_step (first|fail))
      exact wpQuiet_nil rfl
     case hown=>
      intro e he o ho;simp only[mem_cons,not_mem_nil,or_false]at he
     case htail=>
      intro g u Aw Az;have AJ:AA w (later u):=⟨u,rfl⟩;generalize later u=w1 at *;clear u;clear Aw Az;refine DH ?_;have AG:=AJ;(try clear Bx);go_wp2_with fail;refine bodyPost_ret (v:=.tuple #[.slice (some ⟨w1.heap.size,0,none⟩) 0 0,.int .i64 2]) (by simp[results,results59,go_sem]) rfl ⟨_,rfl,AG.alloc _,HE w1⟩
theorem YQ{d:Nat}(a o:Nat)(vi:Value)(i:List Int)(w:World)(h:J9 w d v m)(Nb:m.S.length=m.b.length)(hl:m.b.length<=900)(hf:m.F.length<=900)(hi:Lr w vi i)(sF:i.length<=900)(hm:0<=m.most/\m.most<=16777216)(T6:a+o<=m.b.length)(hr:(i.length:Int)<=m.most-((m.b.length:Int)-o))(ld:Int):
 Calls prog 59 #[.pointer (some ⟨d,0,none⟩),.int .i64 a,.int .i64 o,vi] w fun e w'=>∃u,e=.returned (.tuple #[u,.int .i64 0])/\Lr w' u ((m.b.drop a).take o)/\(∃v',J9 w' d v' {m with b:=Do m.b a o i,S:=PW m.S a o i.length,F:=Bf a o i.length m.F,ld:=ld})/\DC d w w':=by
 have HS:=AC h;obtain ⟨A2,c2,p2,k2⟩:=ZG h.b.rn a o T6;have k2':∀w',(Instr.sliceAt 22 v.vb (some (.int .i64 (a:Int))) (some (.int .i64 ((a:Int)+(o:Int)))) none).run prog w'=.ok (.slice A2 o c2) w':=fun w'=>by rw[<-Int.natCast_add];exact k2 w'
 have IY:((m.b.drop a).take o).length=o:=by rw[length_take,length_drop];omega
 have HCp:=AC (fun (w':World) (a':AA w w')=>gY (p2.later a') AD);obtain ⟨A4,c4,p4,k4⟩:=RN.upto h.b.rn a AD;obtain ⟨u5,p5,k5⟩:=RN.cut h.b.rn (a+o) T6;have yw:∀w',(Instr.sliceAt 22 v.vb (some (.int .i64 ((a:Int)+(o:Int)))) none none).run prog w'=.ok u5 w':=fun w'=>by rw[<-Int.natCast_add];exact k5 w'
 have Hx:IZ m.S a o=m.S.take a++m.S.drop (a+o):=by unfold IZ;rw[<-Int.natCast_add,Int.toNat_natCast,Int.toNat_natCast]
 have hdn:(m.S.take a++m.S.drop (a+o)).length<=900:=by rw[length_append,length_take,length_drop];omega
 have oI:=AC (fun (w':World) (u:Value) (q:RI w' u (m.S.take a++m.S.drop (a+o)))=>(by
  have:=YE u _ a i.length w' q (by rw[length_append,length_take,length_drop];omega) AD AD
  rw[<-Hx,ac AD]at this;exact this:Calls prog 100 #[u,.int .i64 (a:Int),.int .i64 ((i.length:Nat):Int)] w' (V7 w' (PW m.S a o i.length))))
 have bD:=AC (fun (w':World) (q:QR w' v.vf m.F)=>(kC v.vf m.F a o i.length _ w' rfl q AD).mono fun _ _ q=>q.qt);obtain ⟨A1,c1,ag,-⟩:=h.b.form;obtain ⟨AS,cS,hvs,-⟩:=h.s.form;obtain ⟨AF,cF,yE,-⟩:=h.f.1.form;have Ag:=h.CT;simp only[dC]at Ag;obtain ⟨A9,c9,rfl,-⟩:=hi.form;have HI:=AC hi;have HN:=AC (And.intro IY (And.intro hl (And.intro sF (And.intro T6 (And.intro hf Nb)))));obtain ⟨A5,c5,rfl,-⟩:=p5.form;have e5:(m.b.drop (a+o)).length=m.b.length-(a+o):=length_drop;rw[e5]at p5 yw;rw[ag]at Ag k2' k4 yw;rw[hvs]at Ag;rw[yE]at Ag bD;rw[Nb]at Ag;have QF:Hid (QR w (.slice AF m.F.length cF) m.F):=AC (by rw[<-yE];exact h.f.1);have P4:=AC p4;have P5:=AC p5;have K2:=AC k2';have K4:=AC k4;have K5:=AC yw;have HV:=AC (And.intro ag (And.intro hvs yE));have Bx:=AE Ag;obtain ⟨LB,hLB⟩:∃L,m.b=L:=⟨_,rfl⟩;clear h hi IY p2 k2 k2' p4 k4 p5 k5 yw Hx hdn ag hvs yE e5;obtain ⟨n,hn⟩:=BZ (m.b.length);have dy:=AC hn;rw[hn]at Ag Bx hl T6 hr Nb K2 K4 K5 P5;obtain ⟨k,hk⟩:=BZ (i.length);have HK:=AC hk;rw[hk]at sF hr bD oI HI ⊢;obtain ⟨nF,hnF⟩:=BZ (m.F.length);have HnF:=AC hnF;rw[hnF]at Ag Bx hf bD QF;obtain ⟨n3,ro⟩:=BZ (n-(a+o));rw[ro]at K5 P5;clear hLB hn hk hnF Nb;have g3:¬(n:Int)<(a:Int):=AD;have g4:¬(n:Int)-(a:Int)<(o:Int):=AD;have HN3:=AC ro;clear ro;go_enter func59,ntmps59;go_wp2_with fail;apply Ac (15) [] AY AY Ar
 case hstab=>
  intro e he v x y BE hv;simp only[mem_cons,not_mem_nil,or_false]at he
 case hlex=>
  intro U;have q0:=fun (v:BA (later U))=>AE (AB ⟨v,rfl⟩ (AB ⟨U,rfl⟩ Ag))
  refine Ku ?_
  repeat (go_big_quiet_step (first|fail))
  exact wpQuiet_nil rfl
 case hown=>
  intro e he o ho;simp only[mem_cons,not_mem_nil,or_false]at he
 case htail=>
  intro g u Aw Az;have AJ:AA w (later u):=⟨u,rfl⟩;generalize later u=w1 at *;clear u;clear Aw Az;refine DH ?_;have AG:=AJ;have AH:=AB AJ Ag;obtain ⟨B7,Eg,J5⟩:=GH AH;(try clear Bx);obtain ⟨u3,w3,q1,q2,q3⟩:=HCp w1 AG;have Q1:=AC q1;obtain ⟨A3,c3,rfl,-⟩:=q3.rn.form;have Q3:=AC (And.intro (AG.trans q2) q3);rw[HN.out.1]at Q1;have Ah:=AB q2 AH;obtain ⟨CB,Fu⟩:=DX Ah;clear q1 q2 q3;have k2:=K2.out;go_wp2_with (at_builtin;refine Lib.wpList_append_run _ rfl _ _ _ _ rfl _ _ rfl rfl _ _ Q1.out ?_)
  have a03:=Q3.out.1;have uO:=AC a03;apply CS 22 [(1,undef),(8,undef),(10,undef),(19,undef)] [⟨1,67,fun _ _=>True⟩,⟨8,74,fun _ _=>True⟩,⟨10,76,fun _ _=>True⟩,⟨19,85,fun _ _=>True⟩] (fun x=>x.heap[d]?=some (.cells #[.slice A1 n c1,.slice AS n cS,.slice AF nF cF,.int .i64 m.most,.int .i64 m.wd] 44)) (qu 1 8 10 19 w3 (bP .u8 5 (c_ (m.b.take a) i (m.b.drop (a+o))) w3.heap.size)) AY AY AY Ar AY (Df Ah) (fun _=>(AA.refl w3).drew)
  case hlex=>
   intro U hU;have qU:=AE hU;have qs1:=K4.out;have qs3:=K5.out;simp only[actFrom,actOp,lookup,Nat.reduceBEq,reduceLeDiff,reduceAdd,if_false,if_true]
   repeat (go_big_quiet_step (fail))
   exact wpQuiet_nil rfl
  case hact=>
   intro jj WT o' DK;have PA:jj=0\/jj=1\/jj=2\/jj=3:=by simp at WT;omega
   rcases PA with rfl|rfl|rfl|rfl
   ·cases DK;refine ⟨rfl,fun g x hC hS=>?_⟩;have D9:AA w3 x:=hS;refine Bp ?_;exact Cb (w':=x.alloc (.cells #[] 5)) (by simp[go_sem,execOp]) ⟨AB ((AA.refl x).alloc _) hC,.inl ⟨_,mem_of_getElem? (i:=0) rfl,rfl⟩,D9.alloc _,yM.2 (ON.empty D9.below.size (Ae rfl))⟩
   ·cases DK;refine ⟨rfl,fun g x hC hS=>?_⟩;obtain ⟨a1,o0⟩:AA w3 x/\bP .u8 5 (c_ (m.b.take a) i (m.b.drop (a+o))) w3.heap.size 0 (g 1) x:=hS;have o1:=yM.1 o0;obtain ⟨v',x',r1,r2,r3⟩:=mg o1 (P4.out.later (uO.out.trans a1)) a1.below.size (by have:=HN.out;rw[length_take,List.length_nil];omega);have a2:=ON.grown o1 (le_refl _) a1 r3;have cc:x'.heap[d]?=some (.cells #[.slice A1 n c1,.slice AS n cS,.slice AF nF cF,.int .i64 m.most,.int .i64 m.wd] 44):=AB a2 Ah;refine Bp ?_;exact Whole.ET _ _ _ _ rfl _ _ rfl rfl r1 ⟨cc,.inl ⟨_,mem_of_getElem? (i:=1) rfl,rfl⟩,a2,ye.2 r2⟩
   ·cases DK;refine ⟨rfl,fun g x hC hS=>?_⟩;obtain ⟨a1,o0⟩:AA w3 x/\bP .u8 5 (c_ (m.b.take a) i (m.b.drop (a+o))) w3.heap.size 1 (g 8) x:=hS;have o1:=ye.1 o0;obtain ⟨v',x',r1,r2,r3⟩:=mg o1 (HI.out.later (uO.out.trans a1)) a1.below.size (by have:=HN.out;have:=HK.out;rw[length_take];omega);have a2:=ON.grown o1 (le_refl _) a1 r3;have cc:x'.heap[d]?=some (.cells #[.slice A1 n c1,.slice AS n cS,.slice AF nF cF,.int .i64 m.most,.int .i64 m.wd] 44):=AB a2 Ah;refine Bp ?_;exact Whole.ET _ _ _ _ rfl _ _ rfl rfl r1 ⟨cc,.inl ⟨_,mem_of_getElem? (i:=2) rfl,rfl⟩,a2,yq.2 r2⟩
   ·cases DK;refine ⟨rfl,fun g x hC hS=>?_⟩;obtain ⟨a1,o0⟩:AA w3 x/\bP .u8 5 (c_ (m.b.take a) i (m.b.drop (a+o))) w3.heap.size 2 (g 10) x:=hS;have o1:=yq.1 o0;obtain ⟨v',x',r1,r2,r3⟩:=mg o1 (P5.out.later (uO.out.trans a1)) a1.below.size (by have:=HN.out;have:=HK.out;rw[length_append,length_take,length_drop];omega);have a2:=ON.grown o1 (le_refl _) a1 r3;have cc:x'.heap[d]?=some (.cells #[.slice A1 n c1,.slice AS n cS,.slice AF nF cF,.int .i64 m.most,.int .i64 m.wd] 44):=AB a2 Ah;refine Bp ?_;exact Whole.ET _ _ _ _ rfl _ _ rfl rfl r1 ⟨cc,.inl ⟨_,mem_of_getElem? (i:=3) rfl,rfl⟩,a2,un3.2 r2⟩
  case htail=>
   intro g wz hC hS;obtain ⟨a1,o0⟩:AA w3 wz/\bP .u8 5 (c_ (m.b.take a) i (m.b.drop (a+o))) w3.heap.size 3 (g 19) wz:=hS;have o1:=un3.1 o0;clear o0;refine DH ?_;generalize g 19=u at *;have me:=HS.out.later (uO.out.trans a1);have HZ:Hid (∀w4,w4=wz.setCell ⟨d,0,none⟩ u->J9 w4 d {v with vb:=u} {m with b:=Do m.b a o i}/\DC d wz w4):=AC (fun w4 e=>me.set e (by simp[dC]) o1.rt me.s me.f);have Ej:=AC a1;have mM:wz.heap[d]?=some (.cells #[.slice A1 n c1,.slice AS n cS,.slice AF nF cF,.int .i64 m.most,.int .i64 m.wd] 44):=hC;obtain ⟨xn,xj⟩:=DX mM;obtain ⟨A8,c8,rfl,-⟩:=o1.rt.form;generalize (m.b.take a++i++m.b.drop (a+o)).length=n8 at *;clear o1 hC me B7 Eg AH CB Ah Fu k2;go_wp2_with fail;obtain ⟨z1,z2⟩:=HZ _ rfl;have uJ:=AC (And.intro z1 (DC.from Ej (HS.out.later uO.out) z2));clear z1 z2 HZ;generalize wz.setCell ⟨d,0,none⟩ (.slice A8 n8 c8)=w4 at *;have BK:=uJ.out.1.CT;simp only[dC]at BK;rw[HV.out.2.1,HV.out.2.2]at BK;have wq:m.S.length=n:=by rw[HN.out.2.2.2.2.2,dy.out]
   have hFn:m.F.length=nF:=HnF.out;rw[wq,hFn]at BK;obtain ⟨A6,c6,p6,k6⟩:=RN.Z1 uJ.out.1.s.rn a (by show a<=m.S.length;omega);obtain ⟨u7,p7,k7⟩:=RN.mK uJ.out.1.s.rn (a+o) (by show a+o<=m.S.length;omega);have k6':∀w',(Instr.sliceAt 42 (.slice AS n cS) none (some (.int .i64 (a:Int))) none).run prog w'=.ok (.slice A6 a c6) w':=fun w'=>by have q:=k6 w';simp only[HV.out.2.1,wq]at q;exact q
   have k7':∀w',(Instr.sliceAt 42 (.slice AS n cS) (some (.int .i64 ((a:Int)+(o:Int)))) none none).run prog w'=.ok u7 w':=fun w'=>by have q:=k7 w';simp only[HV.out.2.1,wq]at q;rw[<-Int.natCast_add];exact q
   obtain ⟨A7,c7,rfl,-⟩:=p7.form;have e7:(m.S.drop (a+o)).length=n3:=by rw[length_drop,wq];exact HN3.out
   rw[e7]at p7 k7';have P6:Hid (RI w4 (.slice A6 a c6) (m.S.take a)):=AC p6;have P7:Hid (RI w4 (.slice A7 n3 c7) (m.S.drop (a+o))):=AC p7;have K6:=AC k6';have K7:=AC k7';clear p6 p7 k6 k7 k6' k7' e7 wq hFn mM xn xj;obtain ⟨Dz,FK⟩:=DX BK;apply CS 17 [(0,undef),(7,undef),(16,undef)] [⟨0,88,fun _ _=>True⟩,⟨7,95,fun _ _=>True⟩,⟨16,104,fun _ _=>True⟩] (fun x=>x.heap[d]?=some (.cells #[.slice A8 n8 c8,.slice AS n cS,.slice AF nF cF,.int .i64 m.most,.int .i64 m.wd] 44)) (qu 0 7 16 0 w4 (bP .i64 3 (c_ (m.S.take a) (m.S.drop (a+o)) []) w4.heap.size)) AY AY AY Ar AY (Df BK) (fun _=>(AA.refl w4).drew)
   case hlex=>
    intro U hU;have qU:=AE hU;have qs1:=K6.out;have qs3:=K7.out;simp only[actFrom,actOp,lookup,Nat.reduceBEq,reduceLeDiff,reduceAdd,if_false,if_true]
    repeat (go_big_quiet_step (fail))
    exact wpQuiet_nil rfl
   case hact=>
    intro jj WT o' DK;have PA:jj=0\/jj=1\/jj=2:=by simp at WT;omega
    rcases PA with rfl|rfl|rfl
    ·cases DK;refine ⟨rfl,fun g x hC hS=>?_⟩;have D9:AA w4 x:=hS;refine Bp ?_;exact Cb (w':=x.alloc (.cells #[] 3)) (by simp[go_sem,execOp]) ⟨AB ((AA.refl x).alloc _) hC,.inl ⟨_,mem_of_getElem? (i:=0) rfl,rfl⟩,D9.alloc _,yM.2 (ON.empty D9.below.size (Ae rfl))⟩
    ·cases DK;refine ⟨rfl,fun g x hC hS=>?_⟩;obtain ⟨a1,o0⟩:AA w4 x/\bP .i64 3 (c_ (m.S.take a) (m.S.drop (a+o)) []) w4.heap.size 0 (g 0) x:=hS;have o1:=yM.1 o0;obtain ⟨v',x',r1,r2,r3⟩:=RL (s:=42) underlying42 FZ (by decide) o1 (P6.out.later a1) a1.below.size (by have:=HN.out;rw[length_take,List.length_nil];omega);have a2:=ON.grown o1 (le_refl _) a1 r3;have cc:x'.heap[d]?=some (.cells #[.slice A8 n8 c8,.slice AS n cS,.slice AF nF cF,.int .i64 m.most,.int .i64 m.wd] 44):=AB a2 BK;refine Bp ?_;exact Whole.ET _ _ _ _ rfl _ _ rfl rfl r1 ⟨cc,.inl ⟨_,mem_of_getElem? (i:=1) rfl,rfl⟩,a2,ye.2 r2⟩
    ·cases DK;refine ⟨rfl,fun g x hC hS=>?_⟩;obtain ⟨a1,o0⟩:AA w4 x/\bP .i64 3 (c_ (m.S.take a) (m.S.drop (a+o)) []) w4.heap.size 1 (g 7) x:=hS;have o1:=ye.1 o0;obtain ⟨v',x',r1,r2,r3⟩:=RL (s:=42) underlying42 FZ (by decide) o1 (P7.out.later a1) a1.below.size (by have:=HN.out;rw[length_take,length_drop];omega);have a2:=ON.grown o1 (le_refl _) a1 r3;have cc:x'.heap[d]?=some (.cells #[.slice A8 n8 c8,.slice AS n cS,.slice AF nF cF,.int .i64 m.most,.int .i64 m.wd] 44):=AB a2 BK;refine Bp ?_;exact Whole.ET _ _ _ _ rfl _ _ rfl rfl r1 ⟨cc,.inl ⟨_,mem_of_getElem? (i:=2) rfl,rfl⟩,a2,yq.2 r2⟩
   case htail=>
    intro g wy hC hS;obtain ⟨a1,o0⟩:AA w4 wy/\bP .i64 3 (c_ (m.S.take a) (m.S.drop (a+o)) []) w4.heap.size 2 (g 16) wy:=hS;have o1:=yq.1 o0;clear o0;refine DH ?_;generalize g 16=u at *;have WP:=AC a1;have gL:wy.heap[d]?=some (.cells #[.slice A8 n8 c8,.slice AS n cS,.slice AF nF cF,.int .i64 m.most,.int .i64 m.wd] 44):=hC;obtain ⟨rD,z_⟩:=DX gL;have HI9:=AC (oI wy u o1.rn);obtain ⟨A9',c9',rfl,-⟩:=o1.rn.form;generalize (m.S.take a++m.S.drop (a+o)).length=n9 at *;clear o1 hC Dz FK BK;go_wp2_with fail;refine HI9.out.mono ?_;rintro e w6 ⟨u6,rfl,a6,o6⟩;have Lv:=AB a6 gL;obtain ⟨W8,WU⟩:=DX Lv;have yX:=uJ.out.1.later (WP.out.trans a6);have HD6:Hid (∀w7,w7=w6.setCell ⟨d,1,none⟩ u6->J9 w7 d {v with vb:=.slice A8 n8 c8,vs:=u6} {m with b:=Do m.b a o i,S:=PW m.S a o i.length}/\DC d w6 w7):=AC (fun w7 e=>yX.set e (by simp[dC]) yX.b (show RT .i64 3 w6 u6 (PW m.S a o i.length) from by rw[HK.out];exact o6.rt) yX.f);have HA6:=AC (WP.out.trans a6);obtain ⟨zI,yQ,rfl,-⟩:=o6.rt.form;generalize (PW m.S a o k).length=n10 at *;clear o6 a6 yX rD z_ gL;go_wp2_with fail;obtain ⟨y1,y2⟩:=HD6 _ rfl;have wg:=AC (And.intro y1 (DC.trans uJ.out.2 (DC.from HA6 uJ.out.1 y2)));clear y1 y2 HD6;generalize w6.setCell ⟨d,1,none⟩ (.slice zI n10 yQ)=w7 at *;have hF7:QR w7 (.slice AF nF cF) m.F:=by
     have q:=wg.out.1.f.1;simp only[HV.out.2.2,HnF.out]at q;exact q
    have Lg:=wg.out.1.CT;simp only[dC]at Lg;rw[HV.out.2.2,HnF.out]at Lg;refine (bD w7 hF7).mono ?_;rintro e w8 ⟨u8,rfl,a8,o8⟩;have S8:=AB a8 Lg;obtain ⟨pb,qV⟩:=DX S8;have ym:=wg.out.1.later a8;have HD8:Hid (∀w9,w9=w8.setCell ⟨d,2,none⟩ u8->J9 w9 d {v with vb:=.slice A8 n8 c8,vs:=.slice zI n10 yQ,vf:=u8} {m with b:=Do m.b a o i,S:=PW m.S a o i.length,F:=Bf a o i.length m.F}/\DC d w8 w9):=AC (fun w9 e=>ym.set e (by simp[dC]) ym.b ym.s (show QT w8 u8 (Bf a o i.length m.F) from by rw[HK.out];exact o8));have HA8:=AC a8;obtain ⟨A11,zh,rfl,-⟩:=o8.1.form;generalize (Bf (a:Int) (o:Int) (k:Int) m.F).length=n11 at *;clear o8 a8 ym hF7 Lg;go_wp2_with fail;obtain ⟨x1,x2⟩:=HD8 _ rfl;have hc:=DC.trans wg.out.2 (DC.from HA8 wg.out.1 x2);have h3:=(Q3.out.2.rt.dc hc (by decide)).rn;rw[HN.out.1]at h3;have hz:∃v',J9 (w8.setCell ⟨d,2,none⟩ (.slice A11 n11 zh)) d v' {m with b:=Do m.b a o i,S:=PW m.S a o k,F:=Bf a o k m.F,ld:=ld}:=⟨{v with vb:=.slice A8 n8 c8,vs:=.slice zI n10 yQ,vf:=.slice A11 n11 zh},by
     have q:=x1.ld ld;rw[HK.out]at q;exact q⟩
    exact bodyPost_ret (v:=.tuple #[.slice A3 o c3,.int .i64 0]) (by simp[results,results59,go_sem]) rfl ⟨_,rfl,h3,hz,DC.from uO HS hc⟩
def MW(m:Sc)(r:Aa)(f:Qs):Bool:=decide (Cn r=r) && decide ((sR r).length=m.b.length) && BJ m.b.length 0 f
def Wg(m:Sc)(r:Aa):Nat:=if XF m.S (sR r) then BC m.b (Og m.S (sR r))-BC m.b (Qg m.S (sR r))+1 else 0
def JE(m:Sc)(r:Aa)(f:Qs):Sc:=if MW m r f then {m with S:=sR r,F:=f,ld:=m.ld+(Wg m r:Nat)} else m
theorem bo{s:Nat}{x:ES}(v1 v2:Value)(r:Aa)(f:Qs)(w:World)(h:KD B w s x m)(h1:Cf w v1 r)(h2:QT w v2 f)(hf:f.length<=100)(hb:MW m r f=false):
 Calls prog 20 #[.pointer (some ⟨s,0,none⟩),v1,v2] w fun e w'=>e=.returned (.int .i64 1)/\AA w w':=by
 have HG:=AC (fun (w':World) (a:AA w w')=>Lu.MS r (decide (Cn r=r)) rfl (⟨h1.1.later a,h1.2⟩:Cf w' v1 r));have SQ:=AC (fun (w':World) (a:AA w w')=>Lu.len r (sR r).length rfl (⟨h1.1.later a,h1.2⟩:Cf w' v1 r));have HT:=AC (fun (w':World) (a:AA w w')=>Ir w' (h.p.later a));have mf:=AC (fun (w':World) (a:AA w w')=>F8 v2 f m.b.length (BJ m.b.length 0 f) w' rfl (h2.1.later a) AD);obtain ⟨A1,c1,rfl,-⟩:=h1.1.1;obtain ⟨A2,c2,rfl,-⟩:=h2.1.form;have Ag:=h.p.CT;simp only[KF]at Ag;unfold MW at hb;have Nb:=Jn r;have Lp:=h.ok.len;clear h h1 h2 hf;generalize r.length=rn at *;generalize f.length=fn at *
 cases g1:decide (Cn r=r) with
 |false=>
  rw[g1]at HG;clear hb g1 SQ HT mf Nb Lp;go_enter func20,ntmps20;go_wp2_with fail;apply AP (27) [⟨4,14,.bool false,false,fun v _=>v=.bool false⟩] [] rfl AY AY AY Ar AY
  case hstab=>
   intro c hc;rcases Cv hc with rfl
   ·intro v x y BE hv;exact hv
  case hfix=>
   intro c hc;rcases Cv hc with rfl
   ·exact .inr fun u x h=>h
  case hlex=>
   intro U hU;have q0:=AE (AB hU Ag);refine Hj ?_
   repeat (go_big_quiet_step (first|fail))
   exact wpQuiet_nil rfl
  case hstep=>
   intro j hj o ho;have CQ:j=0:=by simp at hj;omega
   rcases CQ with rfl
   ·cases ho;refine ⟨rfl,fun g x hx hp=>?_⟩;clear hp;refine Bp ?_;refine AO ?_ (At (HG x hx));simp[go_sem,execOp]
  case htail=>
   intro g u Aw Az;have AJ:AA w (later u):=⟨u,rfl⟩;generalize later u=w1 at *;clear u;clear Aw Az;refine DH ?_;have AG:=AJ;go_wp2_with fail;go_ret;exact ⟨rfl,AG⟩
 |true=>
  rw[g1]at HG hb;rw[Bool.true_and]at hb;by_cases g2:(sR r).length=m.b.length
  ·rw[decide_eq_true g2,Bool.true_and]at hb;rw[g2]at SQ;rw[hb]at mf;clear hb g1 g2 Nb;generalize m.b.length=n at *;go_enter func20,ntmps20;go_wp2_with fail;apply AP (27) [⟨4,14,.bool true,false,fun v _=>v=.bool true⟩,⟨9,19,.int .i64 (n:Int),false,fun v _=>v=.int .i64 (n:Int)⟩,⟨14,24,.int .i64 (n:Int),false,fun v _=>v=.int .i64 (n:Int)⟩,⟨23,33,.int .i64 (n:Int),false,fun v _=>v=.int .i64 (n:Int)⟩,⟨24,34,.bool false,false,fun v _=>v=.bool false⟩] [] rfl AY AY AY Ar AY
   case hstab=>
    intro c hc;rcases Cv hc with rfl|rfl|rfl|rfl|rfl
    ·intro v x y BE hv;exact hv
    ·intro v x y BE hv;exact hv
    ·intro v x y BE hv;exact hv
    ·intro v x y BE hv;exact hv
    ·intro v x y BE hv;exact hv
   case hfix=>
    intro c hc;rcases Cv hc with rfl|rfl|rfl|rfl|rfl
    ·exact .inr fun u x h=>h
    ·exact .inr fun u x h=>h
    ·exact .inr fun u x h=>h
    ·exact .inr fun u x h=>h
    ·exact .inr fun u x h=>h
   case hlex=>
    intro U hU;have q0:=AE (AB hU Ag);refine Hj ?_
    repeat (go_big_quiet_step (first|fail))
    exact wpQuiet_nil rfl
   case hstep=>
    intro j hj o ho;have CQ:j=0\/j=1\/j=2\/j=3\/j=4:=by simp at hj;omega
    rcases CQ with rfl|rfl|rfl|rfl|rfl
    ·cases ho;refine ⟨rfl,fun g x hx hp=>?_⟩;clear hp;refine Bp ?_;refine AO ?_ (At (HG x hx));simp[go_sem,execOp]
    ·cases ho;refine ⟨rfl,fun g x hx hp=>?_⟩;clear hp;refine Bp ?_;refine AO ?_ (At (SQ x hx));simp[go_sem,execOp]
    ·cases ho;refine ⟨rfl,fun g x hx hp=>?_⟩;clear hp;refine Bp ?_;refine AO ?_ (At (HT x hx));simp[go_sem,execOp]
    ·cases ho;refine ⟨rfl,fun g x hx hp=>?_⟩;clear hp;refine Bp ?_;refine AO ?_ (At (HT x hx));simp[go_sem,execOp]
    ·cases ho;refine ⟨rfl,fun g x hx hp=>?_⟩;clear hp;refine Bp ?_;refine AO ?_ (At (mf x hx));simp[go_sem,execOp]
   case htail=>
    intro g u Aw Az;have AJ:AA w (later u):=⟨u,rfl⟩;generalize later u=w1 at *;clear u;clear Aw Az;refine DH ?_;have AG:=AJ;go_wp2_with fail;go_ret;exact ⟨rfl,AG⟩
  ·have d0:(((sR r).length:Int) != (m.b.length:Int))=true:=by simp;omega
   clear hb g1 g2 mf Nb;generalize m.b.length=n at *;generalize (sR r).length=k at *;go_enter func20,ntmps20;go_wp2_with fail;apply AP (27) [⟨4,14,.bool true,false,fun v _=>v=.bool true⟩,⟨9,19,.int .i64 (k:Int),false,fun v _=>v=.int .i64 (k:Int)⟩,⟨14,24,.int .i64 (n:Int),false,fun v _=>v=.int .i64 (n:Int)⟩] [] rfl AY AY AY Ar AY
   case hstab=>
    intro c hc;rcases Cv hc with rfl|rfl|rfl
    ·intro v x y BE hv;exact hv
    ·intro v x y BE hv;exact hv
    ·intro v x y BE hv;exact hv
   case hfix=>
    intro c hc;rcases Cv hc with rfl|rfl|rfl
    ·exact .inr fun u x h=>h
    ·exact .inr fun u x h=>h
    ·exact .inr fun u x h=>h
   case hlex=>
    intro U hU;have q0:=AE (AB hU Ag);refine Hj ?_
    repeat (go_big_quiet_step (first|fail))
    exact wpQuiet_nil rfl
   case hstep=>
    intro j hj o ho;have CQ:j=0\/j=1\/j=2:=by simp at hj;omega
    rcases CQ with rfl|rfl|rfl
    ·cases ho;refine ⟨rfl,fun g x hx hp=>?_⟩;clear hp;refine Bp ?_;refine AO ?_ (At (HG x hx));simp[go_sem,execOp]
    ·cases ho;refine ⟨rfl,fun g x hx hp=>?_⟩;clear hp;refine Bp ?_;refine AO ?_ (At (SQ x hx));simp[go_sem,execOp]
    ·cases ho;refine ⟨rfl,fun g x hx hp=>?_⟩;clear hp;refine Bp ?_;refine AO ?_ (At (HT x hx));simp[go_sem,execOp]
   case htail=>
    intro g u Aw Az;have AJ:AA w (later u):=⟨u,rfl⟩;generalize later u=w1 at *;clear u;clear Aw Az;refine DH ?_;have AG:=AJ;go_wp2_with fail;go_ret;exact ⟨rfl,AG⟩
theorem Qo{s:Nat}{x:ES}(v1 v2:Value)(r:Aa)(f:Qs)(w:World)(h:KD B w s x m)(hg:RM B w)(h1:Cf w v1 r)(h2:QT w v2 f)(hf:f.length<=100)(hb:MW m r f=true)(S6:m.ld<=900000000):
 Calls prog 20 #[.pointer (some ⟨s,0,none⟩),v1,v2] w fun e w'=>e=.returned (.int .i64 0)/\∃x',KD B w' s x' (JE m r f)/\Ch B w w':=by
 unfold MW at hb;simp only[Bool.and_eq_true,decide_eq_true_iff]at hb;obtain ⟨⟨g1,g2⟩,g3⟩:=hb;have HG:=AC (fun (w':World) (a:AA w w')=>Lu.MS r true (decide_eq_true g1) (⟨h1.1.later a,h1.2⟩:Cf w' v1 r));have SQ:=AC (fun (w':World) (a:AA w w')=>Lu.len r m.b.length g2 (⟨h1.1.later a,h1.2⟩:Cf w' v1 r));have HT:=AC (fun (w':World) (a:AA w w')=>Ir w' (h.p.later a));have mf:=AC (fun (w':World) (a:AA w w')=>F8 v2 f m.b.length true w' g3 (h2.1.later a) AD);obtain ⟨S2,D9⟩:=BZ (sR r);have er:r=BM S2:=by rw[<-D9];exact g1.symm
 have wR:∀s∈S2,BL s=true:=by rw[<-D9];exact LK
 rw[D9]at g2;have Nb:=h.ok.sl;have Lp:=h.ok.len;have QO:Sw m.b S2:=⟨h.ok.O6,g2,wR,Lp⟩;have wJ:=AC (fun (w':World) (a:AA w w')=>ZF x.v1 v1 m.S S2 w' (h.p.runs.later a) (by rw[<-er];exact h1.1.later a) h.ok.sg wR AD AD);have fP:=AC (fun (w':World) (a:AA w w')=>MZ v1 (BM S2) w' (by rw[<-er];exact h1.1.1.later a) (by have:=QO.runs;omega));have rN:=AC (fun (w':World) (u:Value) (q:FH w' u (BM S2))=>O7 u (BM S2) w' q QO.W9 (by have:=QO.runs;omega) (by rw[QO.T_];omega));have HCF:=AC (fun (w':World) (q:QR w' v2 f)=>QG v2 f w' q AD);have ux:=AC (fun (w':World) (u:Value) (x':ES) (m':Sc) (q:Dr B w' s x' m' m.b S2 (Co (Bu m.wd) m.b S2) (Be m.b m'.F)) (hu:QT w' u f) (hl:m'.F.length<=900)=>Ng u f w' q hu hl AD Lp);have eM:JE m r f={m with S:=S2,F:=f,ld:=m.ld+(Wg m r:Nat)}:=by
  unfold JE;rw[if_pos (by unfold MW;rw[decide_eq_true g1,decide_eq_true (by rw[D9];exact g2),g3];rfl),D9]
 have eN:Wg m r=if XF m.S S2 then BC m.b (Og m.S S2)-BC m.b (Qg m.S S2)+1 else 0:=by unfold Wg;rw[D9]
 have OT:=h.nf;have Q5:Hid (∀k:Nat,k<=1000->Sc.Ok {m with S:=S2,F:=f,ld:=m.ld+k}):=AC (fun k hk=>⟨h.ok.O6,g2,wR,Lp,g3,by show f.length<=100;exact hf,h.ok.most,h.ok.wd,by have:=h.ok.ld;show 0<=m.ld+_/\m.ld+_<=1000000000;omega⟩);rw[eM];have HS:=AC h;have YK:=AC hg;have H1:=AC h1.1;have H2:=AC h2;have HFL:=AC (le_trans h.ok.fl (show 100<=900 by omega));obtain ⟨A1,c1,rfl,-⟩:=h1.1.1;obtain ⟨A2,c2,rfl,-⟩:=h2.1.form;have Ag:=h.p.CT;simp only[KF]at Ag
 cases hoB:XF m.S S2 with
 |false=>
  have eS:m.S=S2:=by
   have h1:=T8 m.S S2;refine nN AD ?_;have:=of_decide_eq_false hoB
   omega
  rw[hoB]at wJ;have e0:Wg m r=0:=by rw[eN,hoB];rfl
  have HL0:Hid (Co (Bu m.wd) m.b m.S=Co (Bu m.wd) m.b S2):=AC (by rw[eS]);rw[e0];have Ve:=AC (Q5 0 AD);clear h hg h1 h2 hf g1 g2 g3 eM eN e0 er QO wR Nb Lp OT S6 hoB D9 eS;generalize f.length=fn at *;generalize r.length=rn at *;obtain ⟨n,hn⟩:=BZ (m.b.length);rw[hn]at SQ HT mf;generalize Qg m.S S2=oF at *;generalize Og m.S S2=oL at *;go_enter func20,ntmps20;go_wp2_with fail;apply AP (27) [⟨4,14,.bool true,false,fun v _=>v=.bool true⟩,⟨9,19,.int .i64 (n:Int),false,fun v _=>v=.int .i64 (n:Int)⟩,⟨14,24,.int .i64 (n:Int),false,fun v _=>v=.int .i64 (n:Int)⟩,⟨23,33,.int .i64 (n:Int),false,fun v _=>v=.int .i64 (n:Int)⟩,⟨24,34,.bool true,false,fun v _=>v=.bool true⟩] [] rfl AY AY AY Ar AY
  case hstab=>
   intro c hc;rcases Cv hc with rfl|rfl|rfl|rfl|rfl
   ·intro v x y BE hv;exact hv
   ·intro v x y BE hv;exact hv
   ·intro v x y BE hv;exact hv
   ·intro v x y BE hv;exact hv
   ·intro v x y BE hv;exact hv
  case hfix=>
   intro c hc;rcases Cv hc with rfl|rfl|rfl|rfl|rfl
   ·exact .inr fun u x h=>h
   ·exact .inr fun u x h=>h
   ·exact .inr fun u x h=>h
   ·exact .inr fun u x h=>h
   ·exact .inr fun u x h=>h
  case hlex=>
   intro U hU;have q0:=AE (AB hU Ag);refine Hj ?_
   repeat (go_big_quiet_step (first|fail))
   exact wpQuiet_nil rfl
  case hstep=>
   intro j hj o ho;have CQ:j=0\/j=1\/j=2\/j=3\/j=4:=by simp at hj;omega
   rcases CQ with rfl|rfl|rfl|rfl|rfl
   ·cases ho;refine ⟨rfl,fun g x hx hp=>?_⟩;clear hp;refine Bp ?_;refine AO ?_ (At (HG x hx));simp[go_sem,execOp]
   ·cases ho;refine ⟨rfl,fun g x hx hp=>?_⟩;clear hp;refine Bp ?_;refine AO ?_ (At (SQ x hx));simp[go_sem,execOp]
   ·cases ho;refine ⟨rfl,fun g x hx hp=>?_⟩;clear hp;refine Bp ?_;refine AO ?_ (At (HT x hx));simp[go_sem,execOp]
   ·cases ho;refine ⟨rfl,fun g x hx hp=>?_⟩;clear hp;refine Bp ?_;refine AO ?_ (At (HT x hx));simp[go_sem,execOp]
   ·cases ho;refine ⟨rfl,fun g x hx hp=>?_⟩;clear hp;refine Bp ?_;refine AO ?_ (At (mf x hx));simp[go_sem,execOp]
  case htail=>
   intro g u Aw Az;have AJ:AA w (later u):=⟨u,rfl⟩;generalize later u=w1 at *;clear u;clear Aw Az;refine DH ?_;have AG:=AJ;have AH:=AB AJ Ag;have B7:=AE AH;go_wp2_with fail;refine (wJ _ AG).mono ?_;rintro e w2 ⟨rfl,AL⟩;have AR:=AG.trans AL;have AU:=AB AL AH;(try clear B7);go_wp2_with fail;refine (fP _ AR).mono ?_;rintro e w3 ⟨u1,rfl,AX,o3⟩;have An:=AR.trans AX;have Ah:=AB AX AU;have Zo:=AC o3;obtain ⟨A3,c3,rfl,-⟩:=o3.reads;generalize (BM S2).length=l3 at *;clear o3;go_wp2_with fail;refine (rN w3 _ Zo.out.reads).mono ?_;rintro e w4 ⟨u2,rfl,Ao,o4⟩;have Bl:=An.trans Ao;have BK:=AB Ao Ah;obtain ⟨Dz,FK,OS⟩:=GH BK;have Zv:=AC (And.intro ((HS.out.p.later Bl).NG (Zo.out.typed.later Ao) (ON.rt o4)) ((Ch.of Bl).trans (Ch.NG (HS.out.p.later Bl) (.slice A3 l3 c3) u2)));obtain ⟨A4,c4,rfl,-⟩:=(ON.rt o4).form;generalize (Cu (BM S2)).length=l4 at *;have yP:=AC (YK.out.ch Zv.out.2);have zS:=AC (H2.out.ch Zv.out.2);clear o4;go_wp2_with fail;generalize (w4.setCell ⟨s,2,none⟩ (.slice A3 l3 c3)).setCell ⟨s,3,none⟩ (.slice A4 l4 c4)=w5 at *;clear Dz FK BK OS;refine (HCF w5 zS.out.1).mono ?_;rintro e w9 ⟨u9,rfl,b9,o9⟩;have rK:=AC (And.intro b9 o9.qt);obtain ⟨A9,c9,rfl,-⟩:=(OQ.rq o9).form;clear b9 o9;go_wp2_with fail;refine (ux w9 _ _ m (by rw[<-HL0.out];exact Zv.out.1.later rK.out.1) rK.out.2 HFL.out).mono ?_;rintro e yB ⟨rfl,K10,q1,q2⟩;have HZ:=AC (And.intro q1 (Zv.out.2.trans ((Ch.of rK.out.1).trans q2)));clear q1 q2;go_wp2_with fail;go_ret;exact ⟨rfl,_,⟨Ve.out,HZ.out.1.as rfl rfl rfl Ar⟩,HZ.out.2⟩
 |true=>
  obtain ⟨p1,p2,p3,-,-⟩:=Mk (a:=m.S) (b:=S2) AD (of_decide_eq_true hoB);have eF:Qg m.S S2=pre m.S S2:=by unfold Qg;rw[if_pos hoB]
  have eL:Og m.S S2=m.S.length-1-pre m.S.reverse S2.reverse:=by unfold Og;rw[if_pos hoB]
  rw[hoB]at wJ;obtain ⟨fN,vY⟩:=BZ (Qg m.S S2);obtain ⟨lN,vg⟩:=BZ (Og m.S S2);rw[<-eF,<-eL,vY,vg]at p1;rw[<-eF,<-eL,vY,vg]at p3;rw[vY,vg]at wJ;have X10:lN<=m.b.length:=AD;have uT:=Rz (b:=m.b) (f:=fN) (t:=lN) AD AD AD;have e0:Wg m r=BC m.b lN-BC m.b fN+1:=by rw[eN,if_pos hoB,vY,vg]
  have mE:=AC (fun (w':World) (x':ES) (q:Dr B w' s x' m m.b S2 (Co (Bu m.wd) m.b m.S) (Be m.b m.F))=>GC fN (BC m.b fN) w' q AD rfl);have UT:=AC (fun (w':World) (x':ES) (q:Dr B w' s x' m m.b S2 (Co (Bu m.wd) m.b m.S) (Be m.b m.F))=>GC lN (BC m.b lN) w' q AD rfl);have HR:=AC (fun (w':World) (x':ES) (q:Dr B w' s x' m m.b S2 (Co (Bu m.wd) m.b m.S) (Be m.b m.F)) (kw:RM B w')=>(by
   have q2:=MP (BC m.b fN) (BC m.b lN-BC m.b fN+1) w' q QO kw.nX q.base h.ok.kL (by have:=h.ok.ld;omega) AD (Cc _ _ _);rw[Sb AD AD AD AD (fun p hp=>(p3 p AD).symm),show ((BC m.b fN:Nat):Int)+((BC m.b lN-BC m.b fN+1:Nat):Int)-1=(BC m.b lN:Int) by omega]at q2;exact q2:Calls prog 69 #[.pointer (some ⟨s,0,none⟩),.int .i64 (BC m.b fN:Int),.int .i64 (BC m.b lN:Int)] w' fun e Bg=>e=.returned (.tuple #[])/\MY B w' s x' {m with ld:=m.ld+((BC m.b lN-BC m.b fN+1:Nat):Int)} m.b S2 (Co (Bu m.wd) m.b S2) (Be m.b m.F) Bg))
  rw[e0];have Ve:=AC (Q5 (BC m.b lN-BC m.b fN+1) AD);clear h hg h1 h2 hf g1 g2 g3 eM eN e0 er QO wR Nb Lp OT S6 hoB D9 p1 p2 p3 eF eL vY vg X10 uT;generalize f.length=fn at *;generalize r.length=rn at *;obtain ⟨n,hn⟩:=BZ (m.b.length);rw[hn]at SQ HT mf;go_enter func20,ntmps20;go_wp2_with fail;apply AP (27) [⟨4,14,.bool true,false,fun v _=>v=.bool true⟩,⟨9,19,.int .i64 (n:Int),false,fun v _=>v=.int .i64 (n:Int)⟩,⟨14,24,.int .i64 (n:Int),false,fun v _=>v=.int .i64 (n:Int)⟩,⟨23,33,.int .i64 (n:Int),false,fun v _=>v=.int .i64 (n:Int)⟩,⟨24,34,.bool true,false,fun v _=>v=.bool true⟩] [] rfl AY AY AY Ar AY
  case hstab=>
   intro c hc;rcases Cv hc with rfl|rfl|rfl|rfl|rfl
   ·intro v x y BE hv;exact hv
   ·intro v x y BE hv;exact hv
   ·intro v x y BE hv;exact hv
   ·intro v x y BE hv;exact hv
   ·intro v x y BE hv;exact hv
  case hfix=>
   intro c hc;rcases Cv hc with rfl|rfl|rfl|rfl|rfl
   ·exact .inr fun u x h=>h
   ·exact .inr fun u x h=>h
   ·exact .inr fun u x h=>h
   ·exact .inr fun u x h=>h
   ·exact .inr fun u x h=>h
  case hlex=>
   intro U hU;have q0:=AE (AB hU Ag);refine Hj ?_
   repeat (go_big_quiet_step (first|fail))
   exact wpQuiet_nil rfl
  case hstep=>
   intro j hj o ho;have CQ:j=0\/j=1\/j=2\/j=3\/j=4:=by simp at hj;omega
   rcases CQ with rfl|rfl|rfl|rfl|rfl
   ·cases ho;refine ⟨rfl,fun g x hx hp=>?_⟩;clear hp;refine Bp ?_;refine AO ?_ (At (HG x hx));simp[go_sem,execOp]
   ·cases ho;refine ⟨rfl,fun g x hx hp=>?_⟩;clear hp;refine Bp ?_;refine AO ?_ (At (SQ x hx));simp[go_sem,execOp]
   ·cases ho;refine ⟨rfl,fun g x hx hp=>?_⟩;clear hp;refine Bp ?_;refine AO ?_ (At (HT x hx));simp[go_sem,execOp]
   ·cases ho;refine ⟨rfl,fun g x hx hp=>?_⟩;clear hp;refine Bp ?_;refine AO ?_ (At (HT x hx));simp[go_sem,execOp]
   ·cases ho;refine ⟨rfl,fun g x hx hp=>?_⟩;clear hp;refine Bp ?_;refine AO ?_ (At (mf x hx));simp[go_sem,execOp]
  case htail=>
   intro g u Aw Az;have AJ:AA w (later u):=⟨u,rfl⟩;generalize later u=w1 at *;clear u;clear Aw Az;refine DH ?_;have AG:=AJ;have AH:=AB AJ Ag;have B7:=AE AH;go_wp2_with fail;refine (wJ _ AG).mono ?_;rintro e w2 ⟨rfl,AL⟩;have AR:=AG.trans AL;have AU:=AB AL AH;(try clear B7);go_wp2_with fail;refine (fP _ AR).mono ?_;rintro e w3 ⟨u1,rfl,AX,o3⟩;have An:=AR.trans AX;have Ah:=AB AX AU;have Zo:=AC o3;obtain ⟨A3,c3,rfl,-⟩:=o3.reads;generalize (BM S2).length=l3 at *;clear o3;go_wp2_with fail;refine (rN w3 _ Zo.out.reads).mono ?_;rintro e w4 ⟨u2,rfl,Ao,o4⟩;have Bl:=An.trans Ao;have BK:=AB Ao Ah;obtain ⟨Dz,FK,OS⟩:=GH BK;have Zv:=AC (And.intro ((HS.out.p.later Bl).NG (Zo.out.typed.later Ao) (ON.rt o4)) ((Ch.of Bl).trans (Ch.NG (HS.out.p.later Bl) (.slice A3 l3 c3) u2)));obtain ⟨A4,c4,rfl,-⟩:=(ON.rt o4).form;generalize (Cu (BM S2)).length=l4 at *;have yP:=AC (YK.out.ch Zv.out.2);have zS:=AC (H2.out.ch Zv.out.2);clear o4;go_wp2_with fail;generalize (w4.setCell ⟨s,2,none⟩ (.slice A3 l3 c3)).setCell ⟨s,3,none⟩ (.slice A4 l4 c4)=w5 at *;clear Dz FK BK OS;refine (mE w5 _ Zv.out.1).mono ?_;rintro e w6 ⟨rfl,b6⟩;have H6:=AC b6;clear b6;go_wp2_with fail;refine (UT w6 _ (Zv.out.1.later H6.out)).mono ?_;rintro e w7 ⟨rfl,b7⟩;have H7:=AC (H6.out.trans b7);clear b7;go_wp2_with fail;refine (HR w7 _ (Zv.out.1.later H7.out) (yP.out.later H7.out)).mono ?_;rintro e w8 ⟨rfl,K8,q1,q2⟩;have qk:=AC (And.intro q1 (Zv.out.2.trans ((Ch.of H7.out).trans q2)));have H28:=AC ((zS.out.later H7.out).ch q2);clear q1 q2;go_wp2_with fail;refine (HCF w8 H28.out.1).mono ?_;rintro e w9 ⟨u9,rfl,b9,o9⟩;have rK:=AC (And.intro b9 o9.qt);obtain ⟨A9,c9,rfl,-⟩:=(OQ.rq o9).form;clear b9 o9;go_wp2_with fail;refine (ux w9 _ _ _ (qk.out.1.later rK.out.1) rK.out.2 HFL.out).mono ?_;rintro e yB ⟨rfl,K10,q1,q2⟩;have HZ:=AC (And.intro q1 (qk.out.2.trans ((Ch.of rK.out.1).trans q2)));clear q1 q2;go_wp2_with fail;go_ret;exact ⟨rfl,_,⟨Ve.out,HZ.out.1.as rfl rfl rfl rfl⟩,HZ.out.2⟩
structure Kp(B:Nat)(w w':World):Prop where
 any:∀W,AA W w->W.heap.size<=B->AA W w'
 ints:∀v l,RT .i64 3 w v l->RT .i64 3 w' v l
 bys:∀v l,RT .u8 5 w v l->RT .u8 5 w' v l
 act:∀(k:Nat) (cs:Array Value),w.heap[k]?=some (.cells cs 38)->w'.heap[k]?=some (.cells cs 38)
theorem LD:¬Oi 38:=by unfold Oi;decide
theorem Kp.of(a:AA w w'):Kp B w w':=⟨fun _ h _=>h.trans a,fun _ _ h=>h.later a,fun _ _ h=>h.later a,fun _ _ h=>AB a h⟩
theorem Kp.ch(c:Ch B w w'):Kp B w w':=⟨fun _ h hB=>c.any h hB,fun _ _ h=>h.ch c Js,fun _ _ h=>h.ch c Jf,fun _ _ h=>c.own h LD⟩
theorem Kp.dc{d:Nat}(c:DC d w w')(hB:B<=d):Kp B w w':=⟨fun _ h h2=>c.any h (le_trans h2 hB),fun _ _ h=>h.dc c (by decide),fun _ _ h=>h.dc c (by decide),fun _ _ h=>c.own h (by decide)⟩
theorem Kp.trans{a b c:World}(h:Kp B a b)(k:Kp B b c):Kp B a c:=⟨fun W q hB=>k.any W (h.any W q hB) hB,fun v l q=>k.ints v l (h.ints v l q),fun v l q=>k.bys v l (h.bys v l q),fun j cs q=>k.act j cs (h.act j cs q)⟩
def DJ(B:Nat)(w:World)(s d:Nat)(m1 m2:Sc)(y:World):Prop:=(∃x,KD B y s x m1)/\(∃v,J9 y d v m2)/\RM B y/\Kp B w y
theorem DJ.s{s d:Nat}{x':ES}(h:DJ B w s d m1 m2 y)(hs:KD B y' s x' m')(c:Ch B y y'):DJ B w s d m' m2 y':=by
 obtain ⟨-,⟨v,h2⟩,h3,h4⟩:=h;exact ⟨⟨x',hs⟩,⟨v,h2.ch c⟩,h3.ch c,h4.trans (.ch c)⟩
theorem DJ.d{s d:Nat}{v':DV}(h:DJ B w s d m1 m2 y)(bd:B<=d)(hd:J9 y' d v' m')(c:DC d y y'):DJ B w s d m1 m' y':=by
 obtain ⟨⟨x,h1⟩,-,h3,h4⟩:=h;have g:RM B y':=by
  obtain ⟨W,q1,q2,q3⟩:=h3;exact ⟨W,q1,q2,c.any q3 (le_trans q2 bd)⟩
 exact ⟨⟨x,h1.dc c⟩,⟨v',hd⟩,g,h4.trans (.dc c bd)⟩
theorem DJ.later{s d:Nat}(h:DJ B w s d m1 m2 y)(a:AA y y'):DJ B w s d m1 m2 y':=by
 obtain ⟨⟨x,h1⟩,⟨v,h2⟩,h3,h4⟩:=h;exact ⟨⟨x,h1.later a⟩,⟨v,h2.later a⟩,h3.later a,h4.trans (.of a)⟩
structure WS(B:Nat)(m:Sc)(A:IW)(s d:Nat):Prop where
 bd:B<=d
 ld:m.ld<=900000000
 fl:m.F.length<100
 len:m.b.length<=870
 ia:BO A.a
 mB:BO A.n
 it:BO A.t
def qw(B:Nat)(w:World)(s d:Nat)(m':Sc)(e:Ending)(y:World):Prop:=e=.returned (.bool true)/\DJ B w s d m' m' y
theorem lE{s d:Nat}(A:IW)(w:World)(h:DJ B w s d m m w)(ok:WS B m A s d)(hk:A.kind=1):
 Calls prog 12 #[.pointer (some ⟨s,0,none⟩),.pointer (some ⟨d,0,none⟩),Ho A] w (qw B w s d (Iw m A.a A.n A.t)):=by
 have bd:=ok.bd;have HA:=AC (fun (k:Nat) (cs:Array Value) (y:World) (q:DJ B w s d m m y) (hk:y.heap[k]?=some (.cells cs 38))=>(by
  obtain ⟨⟨x,q1⟩,⟨v,q2⟩,q3,q4⟩:=id q;refine (YF A.a A.n A.t y q1 q3 ok.ia ok.mB ok.it ok.ld).mono ?_;rintro e y' ⟨rfl,x',r1,r2⟩;exact ⟨rfl,r2.own hk LD,q.s r1 r2⟩:Calls prog 31 #[.pointer (some ⟨s,0,none⟩),.int .i64 A.a,.int .i64 A.n,.int .i64 A.t] y fun e y'=>e=.returned (.int .i64 (Mm m A.a A.n A.t))/\y'.heap[k]?=some (.cells cs 38)/\DJ B w s d (Iw m A.a A.n A.t) m y'))
 have HD:=AC (fun (k:Nat) (cs:Array Value) (y:World) (q:DJ B w s d (Iw m A.a A.n A.t) m y) (hk:y.heap[k]?=some (.cells cs 38))=>(by
  obtain ⟨⟨x,q1⟩,⟨v,q2⟩,q3,q4⟩:=id q;have hsc:m.S.length=m.b.length/\m.b.length<=900:=by
   obtain ⟨⟨x0,p1⟩,-⟩:=h;exact ⟨p1.ok.sl,p1.ok.len⟩
  refine (Vt A.a A.n A.t y q2 hsc.1 hsc.2).mono ?_;rintro e y' ⟨rfl,⟨v',r1⟩,r2⟩;exact ⟨rfl,r2.own hk (by decide),q.d bd r1 r2⟩:Calls prog 51 #[.pointer (some ⟨d,0,none⟩),.int .i64 A.a,.int .i64 A.n,.int .i64 A.t] y fun e y'=>e=.returned (.int .i64 (Mm m A.a A.n A.t))/\y'.heap[k]?=some (.cells cs 38)/\DJ B w s d (Iw m A.a A.n A.t) (Iw m A.a A.n A.t) y'))
 have HP:=AC h;obtain ⟨kk,a,n,t,vb,vl,vf,b,l,f⟩:=A;obtain rfl:kk=1:=hk
 obtain ⟨c,hc⟩:=BZ (Mm m a n t);simp only[hc]at HA HD;simp only
 clear h ok hc bd;generalize Iw m a n t=m' at *;unfold Ho J0;simp only
 go_enter func12,ntmps12;go_wp2_with fail;refine JL w (w.heap.size) (.cells #[.int .i64 1,.int .i64 a,.int .i64 n,.int .i64 t,vb,vl,vf] 38) ?_;intro w1 AJ AH;have XV:=AC (HP.out.later AJ);go_wp2_with fail;apply Fg 16 [(7,.int .i64 c),(15,.int .i64 c)] (fun x=>x.heap[w.heap.size]?=some (.cells #[.int .i64 1,.int .i64 a,.int .i64 n,.int .i64 t,vb,vl,vf] 38)) (yp [fun y=>DJ B w s d m m y,fun y=>DJ B w s d m' m y,fun y=>DJ B w s d m' m' y]) AY AY AY (Df AH) (XV.out.later (AA.refl w1).drew)
 case hlex=>
  intro U hU;have qU:=AE hU;simp only[actFrom,actOp,lookup,Nat.reduceBEq,reduceLeDiff,reduceAdd,if_false,if_true]
  repeat (go_big_quiet_step (fail))
  exact wpQuiet_nil rfl
 case hact=>
  intro j hj o ho;have PA:j=0\/j=1:=by simp at hj;omega
  rcases PA with rfl|rfl
  ·cases ho;refine ⟨rfl,fun y hC hS=>?_⟩;have D9:DJ B w s d m m y:=hS;exact JG (by simp[go_sem,execOp]) ((HA _ _ y D9 hC).mono fun e y' q=>q)
  ·cases ho;refine ⟨rfl,fun y hC hS=>?_⟩;have D9:DJ B w s d m' m y:=hS;exact JG (by simp[go_sem,execOp]) ((HD _ _ y D9 hC).mono fun e y' q=>q)
 case htail=>
  intro y hC hS;have D9:DJ B w s d m' m' y:=hS;have HZ:=AC D9;clear hS D9;simp only[List.drop_succ_cons,drop_zero,drop_nil];go_wp2_with fail;go_ret;exact ⟨rfl,HZ.out⟩
theorem pH{s d:Nat}(A:IW)(w:World)(h:DJ B w s d m m w)(ok:WS B m A s d)(hk:A.kind=2):
 Calls prog 12 #[.pointer (some ⟨s,0,none⟩),.pointer (some ⟨d,0,none⟩),Ho A] w (qw B w s d (Ft m A.a A.n)):=by
 have bd:=ok.bd;have Ww:m.F.length<=60000:=by have:=ok.fl;omega
 have HA:=AC (fun (k:Nat) (cs:Array Value) (y:World) (q:DJ B w s d m m y) (hk:y.heap[k]?=some (.cells cs 69))=>(by
  obtain ⟨⟨x,q1⟩,⟨v,q2⟩,q3,q4⟩:=id q;refine (ZL A.a A.n y q1 ok.fl).mono ?_;rintro e y' ⟨rfl,x',r1,r2⟩;exact ⟨rfl,r2.own hk Ot,q.s r1 r2⟩:Calls prog 32 #[.pointer (some ⟨s,0,none⟩),.agg #[.int .i64 A.a,.int .i64 A.n]] y fun e y'=>e=.returned (.int .i64 (KL m A.a A.n))/\y'.heap[k]?=some (.cells cs 69)/\DJ B w s d (Ft m A.a A.n) m y'))
 have HD:=AC (fun (k:Nat) (cs:Array Value) (y:World) (q:DJ B w s d (Ft m A.a A.n) m y) (hk:y.heap[k]?=some (.cells cs 69))=>(by
  obtain ⟨⟨x,q1⟩,⟨v,q2⟩,q3,q4⟩:=id q;refine (YC A.a A.n y q2 Ww).mono ?_;rintro e y' ⟨rfl,⟨v',r1⟩,r2⟩;exact ⟨rfl,r2.own hk (by decide),q.d bd r1 r2⟩:Calls prog 52 #[.pointer (some ⟨d,0,none⟩),.agg #[.int .i64 A.a,.int .i64 A.n]] y fun e y'=>e=.returned (.int .i64 (KL m A.a A.n))/\y'.heap[k]?=some (.cells cs 69)/\DJ B w s d (Ft m A.a A.n) (Ft m A.a A.n) y'))
 have HP:=AC h;obtain ⟨kk,a,n,t,vb,vl,vf,b,l,f⟩:=A;obtain rfl:kk=2:=hk
 obtain ⟨c,hc⟩:=BZ (KL m a n);simp only[hc]at HA HD;simp only
 clear h ok hc bd Ww;generalize Ft m a n=m' at *;unfold Ho J0;simp only
 go_enter func12,ntmps12;go_wp2_with fail;refine BW (fun wS=>AA w wS/\wS.heap[w.heap.size]?=some (.cells #[.int .i64 2,.int .i64 a,.int .i64 n,.int .i64 t,vb,vl,vf] 38)/\wS.heap[w.heap.size+1]?=some (.cells #[.int .i64 a,.int .i64 n] 69)) ⟨BQ,CG,CG⟩ ?_;rintro w2 ⟨AL,AU,BH⟩;have AR:=AL;have XV:=AC (HP.out.later AR);apply Fg 6 [(2,.int .i64 c),(5,.int .i64 c)] (fun x=>x.heap[w.heap.size+1]?=some (.cells #[.int .i64 a,.int .i64 n] 69)) (yp [fun y=>DJ B w s d m m y,fun y=>DJ B w s d m' m y,fun y=>DJ B w s d m' m' y]) AY AY AY (Df BH) (XV.out.later (AA.refl w2).drew)
 case hlex=>
  intro U hU;have qU:=AE hU;simp only[actFrom,actOp,lookup,Nat.reduceBEq,reduceLeDiff,reduceAdd,if_false,if_true]
  repeat (go_big_quiet_step (fail))
  exact wpQuiet_nil rfl
 case hact=>
  intro j hj o ho;have PA:j=0\/j=1:=by simp at hj;omega
  rcases PA with rfl|rfl
  ·cases ho;refine ⟨rfl,fun y hC hS=>?_⟩;have D9:DJ B w s d m m y:=hS;exact JG (by simp[go_sem,execOp]) ((HA _ _ y D9 hC).mono fun e y' q=>q)
  ·cases ho;refine ⟨rfl,fun y hC hS=>?_⟩;have D9:DJ B w s d m' m y:=hS;exact JG (by simp[go_sem,execOp]) ((HD _ _ y D9 hC).mono fun e y' q=>q)
 case htail=>
  intro y hC hS;have D9:DJ B w s d m' m' y:=hS;have HZ:=AC D9;clear hS D9;simp only[List.drop_succ_cons,drop_zero,drop_nil];go_wp2_with fail;go_ret;exact ⟨rfl,HZ.out⟩
theorem eh{s d:Nat}(A:IW)(w:World)(h:DJ B w s d m m w)(ok:WS B m A s d)(hk:A.kind=3):
 Calls prog 12 #[.pointer (some ⟨s,0,none⟩),.pointer (some ⟨d,0,none⟩),Ho A] w (qw B w s d (KC m A.a)):=by
 have bd:=ok.bd;have Ww:m.F.length<=60000:=by have:=ok.fl;omega
 have HA:=AC (fun (k:Nat) (cs:Array Value) (y:World) (q:DJ B w s d m m y) (hk:y.heap[k]?=some (.cells cs 38))=>(by
  obtain ⟨⟨x,q1⟩,⟨v,q2⟩,q3,q4⟩:=id q;refine (Uc A.a y q1).mono ?_;rintro e y' ⟨rfl,x',r1,r2⟩;exact ⟨rfl,r2.own hk LD,q.s r1 r2⟩:Calls prog 33 #[.pointer (some ⟨s,0,none⟩),.int .i64 A.a] y fun e y'=>e=.returned (.int .i64 (QS m A.a))/\y'.heap[k]?=some (.cells cs 38)/\DJ B w s d (KC m A.a) m y'))
 have HD:=AC (fun (k:Nat) (cs:Array Value) (y:World) (q:DJ B w s d (KC m A.a) m y) (hk:y.heap[k]?=some (.cells cs 38))=>(by
  obtain ⟨⟨x,q1⟩,⟨v,q2⟩,q3,q4⟩:=id q;refine (UD A.a y q2 Ww).mono ?_;rintro e y' ⟨rfl,⟨v',r1⟩,r2⟩;exact ⟨rfl,r2.own hk (by decide),q.d bd r1 r2⟩:Calls prog 53 #[.pointer (some ⟨d,0,none⟩),.int .i64 A.a] y fun e y'=>e=.returned (.int .i64 (QS m A.a))/\y'.heap[k]?=some (.cells cs 38)/\DJ B w s d (KC m A.a) (KC m A.a) y'))
 have HP:=AC h;obtain ⟨kk,a,n,t,vb,vl,vf,b,l,f⟩:=A;obtain rfl:kk=3:=hk
 obtain ⟨c,hc⟩:=BZ (QS m a);simp only[hc]at HA HD;simp only
 clear h ok hc bd Ww;generalize KC m a=m' at *;unfold Ho J0;simp only
 go_enter func12,ntmps12;go_wp2_with fail;refine JL w (w.heap.size) (.cells #[.int .i64 3,.int .i64 a,.int .i64 n,.int .i64 t,vb,vl,vf] 38) ?_;intro w1 AJ AH;have XV:=AC (HP.out.later AJ);go_wp2_with fail;apply Fg 8 [(3,.int .i64 c),(7,.int .i64 c)] (fun x=>x.heap[w.heap.size]?=some (.cells #[.int .i64 3,.int .i64 a,.int .i64 n,.int .i64 t,vb,vl,vf] 38)) (yp [fun y=>DJ B w s d m m y,fun y=>DJ B w s d m' m y,fun y=>DJ B w s d m' m' y]) AY AY AY (Df AH) (XV.out.later (AA.refl w1).drew)
 case hlex=>
  intro U hU;have qU:=AE hU;simp only[actFrom,actOp,lookup,Nat.reduceBEq,reduceLeDiff,reduceAdd,if_false,if_true]
  repeat (go_big_quiet_step (fail))
  exact wpQuiet_nil rfl
 case hact=>
  intro j hj o ho;have PA:j=0\/j=1:=by simp at hj;omega
  rcases PA with rfl|rfl
  ·cases ho;refine ⟨rfl,fun y hC hS=>?_⟩;have D9:DJ B w s d m m y:=hS;exact JG (by simp[go_sem,execOp]) ((HA _ _ y D9 hC).mono fun e y' q=>q)
  ·cases ho;refine ⟨rfl,fun y hC hS=>?_⟩;have D9:DJ B w s d m' m y:=hS;exact JG (by simp[go_sem,execOp]) ((HD _ _ y D9 hC).mono fun e y' q=>q)
 case htail=>
  intro y hC hS;have D9:DJ B w s d m' m' y:=hS;have HZ:=AC D9;clear hS D9;simp only[List.drop_succ_cons,drop_zero,drop_nil];go_wp2_with fail;go_ret;exact ⟨rfl,HZ.out⟩
theorem dZ{s d:Nat}(A:IW)(w:World)(h:DJ B w s d m m w)(ok:WS B m A s d)(hk:A.kind=4):
 Calls prog 12 #[.pointer (some ⟨s,0,none⟩),.pointer (some ⟨d,0,none⟩),Ho A] w (qw B w s d (IX m A.n)):=by
 have bd:=ok.bd;have HA:=AC (fun (k:Nat) (cs:Array Value) (y:World) (q:DJ B w s d m m y) (hk:y.heap[k]?=some (.cells cs 38))=>(by
  obtain ⟨⟨x,q1⟩,⟨v,q2⟩,q3,q4⟩:=id q;refine (Wf A.n y q1 q3 ok.ld).mono ?_;rintro e y' ⟨rfl,x',r1,r2⟩;exact ⟨rfl,r2.own hk LD,q.s r1 r2⟩:Calls prog 29 #[.pointer (some ⟨s,0,none⟩),.int .i64 A.n] y fun e y'=>e=.returned (.tuple #[])/\y'.heap[k]?=some (.cells cs 38)/\DJ B w s d (IX m A.n) m y'))
 have HW:=AC (fun w'=>Se A.n _ rfl w');have HD:Hid (∀(y:World) (v:DV),DJ B w s d (IX m A.n) m y->J9 y d v m->DJ B w s d (IX m A.n) (IX m A.n) (y.setCell ⟨d,4,none⟩ (.int .i64 (Fo A.n)))):=AC (fun y v q q2=>by
  have hw:(IX m A.n).wd=Fo A.n:=by
   unfold IX;split
   ·rename_i e;exact e.symm
   ·rfl
  have hr:(IX m A.n).b=m.b/\(IX m A.n).S=m.S/\(IX m A.n).F=m.F/\(IX m A.n).most=m.most:=by
   unfold IX;split <;> exact ⟨rfl,rfl,rfl,rfl⟩
  obtain ⟨z1,z2⟩:=q2.set (v':=v) (m':=IX m A.n) (i:=4) (u:=.int .i64 (Fo A.n)) rfl (by simp[dC,hw,hr.2.2.2]) (by rw[hr.1];exact q2.b) (by rw[hr.2.1];exact q2.s) (by rw[hr.2.2.1];exact q2.f);exact q.d bd z1 z2)
 have HP:=AC h;obtain ⟨kk,a,n,t,vb,vl,vf,b,l,f⟩:=A;obtain rfl:kk=4:=hk
 simp only at HA HW HD ⊢
 clear h ok bd;generalize IX m n=m' at *;generalize Fo n=c at *;unfold Ho J0;simp only
 go_enter func12,ntmps12;go_wp2_with fail;refine AQ (fun wS=>AA w wS/\wS.heap[w.heap.size]?=some (.cells #[.int .i64 4,.int .i64 a,.int .i64 n,.int .i64 t,vb,vl,vf] 38)) ⟨BQ,CG⟩ ?_;rintro w1 ⟨AJ,AH⟩;obtain ⟨B7,Eg⟩:=DX AH;have XV:=AC (HP.out.later AJ);have TO:=AC AH;go_wp2_with fail;refine (HA _ _ w1 XV TO.out).mono ?_;rintro e y ⟨rfl,gL,q⟩;have HQ:=AC q;obtain ⟨-,⟨v,q2⟩,-⟩:=q;have HZ:=AC (HD y v HQ q2);have wk:=q2.CT;simp only[dC]at wk;have rD:=AE gL;obtain ⟨Q19,Q20⟩:=DX wk;clear q2 AH B7 Eg;go_wp2_with fail;refine (HW y).mono ?_;rintro e y' ⟨rfl,rfl⟩;go_wp2_with fail;go_ret;exact ⟨rfl,HZ.out⟩
end
end Go.Proofs.YtamhnffokoejjaaGreatDoor
